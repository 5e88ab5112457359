/- Contract of the program's Compress. -/
import Derived.Test.YtkomnnijnggbpaaGreatDoorZ2
import Derived.Test.YtkomnnijnggbpaaGreatDoorImplTokens
import Derived.Test.YtkomnnijnggbpaaGreatDoorZ4
import Derived.Test.YtkomnnijnggbpaaGreatDoorZ0
import Derived.BigQuiet
import Derived.OwnWalk
namespace Go.Proofs.YtkomnnijnggbpaaGreatDoor
open Go.RowKit
set_option linter.unusedVariables false

theorem two_bytes_at (w : World) (a b : UInt8) {A B : Int} {ad : Nat} (had : ad = w.heap.size) (hA : A = a.toNat) (hB : B = b.toNat) : ∀ j, j < [a, b].length → (w.alloc (.cells #[.int .u8 A, .int .u8 B] 5)).cell? ⟨ad, j, none⟩ = some (u8v ([a, b].getD j 0)) := by
 subst had; exact two_bytes w a b hA hB
theorem one_byte_at (w : World) (a : UInt8) {A : Int} {ad : Nat} (had : ad = w.heap.size) (hA : A = a.toNat) : ∀ j, j < [a].length → (w.alloc (.cells #[.int .u8 A] 5)).cell? ⟨ad, j, none⟩ = some (u8v ([a].getD j 0)) := by
 subst had; exact one_byte w a hA

theorem kept_var {w0 wr w2 : World} {v : Value} {xs : List UInt8} (t : BRow w0 wr v xs) {cs : Array Value} {o : Obj} (hg : ((wr.alloc (.cells cs 158)).alloc o).grownBy w2 v.ownBlock) (j : Nat) : w2.cell? ⟨wr.heap.size, j, none⟩ = cs[j]? := by
 have hb := var_block wr cs 158 o
 have h := hg.block wr.heap.size (lt_of_block hb) (((t.alloc _).alloc _).apart hb (by decide))
 rw [World.cell?_of_block (a := ⟨wr.heap.size, j, none⟩) h]
 exact var_cell wr cs _ j o
theorem kept_row {w0 wr w2 : World} {v : Value} {xs : List UInt8} (t : BRow w0 wr v xs) {gl : Nat} {cur cs : Array Value} {o o2 : Obj} (hcu : wr.heap[gl]? = some (.cells cur 158 (0, 0))) (hg : ((wr.alloc o2).alloc o).grownBy w2 v.ownBlock) : w2.heap[gl]? = some (.cells cur 158 (0, 0)) :=
 (hg.block gl (lt_later (keep_block hcu _) _) (t.apart hcu (by decide))).trans (keep_block (keep_block hcu _) _)

set_option maxHeartbeats 2000000 in
set_option maxRecDepth 100000 in
theorem implCompress (s : ByteArray) (w : World) :
   Calls Tryz.prog 94 #[.string s] w (PackOut w (compress s.data.toList)) := by
 have HCL := Lib.hid (compress_len s.data.toList)
 go_enter Tryz.func94, Tryz.ntmps94
 go_wp2_with fail
 refine (implTokens s _).mono ?_
 rintro e w1 ⟨v, rfl, t⟩
 obtain ⟨xs, hxs⟩ : ∃ xs, tokens s.data.toList = xs := ⟨_, rfl⟩
 rw [hxs] at t
 have HXS := Lib.hid hxs
 have HOK := Lib.hid (show ∀ y ∈ xs, TokOk y by rw [← hxs]; exact tokens_ok _)
 clear hxs
 have B1 := Lib.hid (show BRow w w1 (.slice none 0 0) [] from ⟨World.ownsRow_nil _ _ _ _, t.below⟩)
 rcases t.row.2 with ⟨rfl, h0⟩ | ⟨gl, capl, cur, rfl, hgl, hcur, hn1, hn2, hn3, hn4⟩
 · have hx : xs = [] := List.eq_nil_of_length_eq_zero h0
   subst hx
   have HR := Lib.hid (show compress s.data.toList = [] by unfold compress; rw [HXS.out]; rfl)
   have hcv := run_convert_bytes_nil (P := Tryz.prog) w1 22 5 Tryz.underlying22 Tryz.underlying5 0 0 9 Tryz.underlying9
   clear t h0
   go_wp2_with fail
   go_loop [3, 9] (fun v i => v = .slice none 0 0 ∧ i = .int .i64 0) (fun _ _ => 0)
   case atStart => exact ⟨rfl, rfl⟩
   case round =>
     obtain ⟨rfl, rfl⟩ := hrel
     go_wp2
     go_ret
     exact ⟨ret_text (a := []) HR.out.symm, B1.out.below⟩
 · have HCUR := Lib.hid (And.intro hcur hn4)
   have HTL := Lib.hid (show (xs.flatMap encTok).length ≤ 4001 by have := HCL.out; unfold compress at this; rw [HXS.out] at this; exact this)
   have hnl : xs.length ≤ 4001 := by have := few_toks xs; have := HTL.out; omega
   clear t hgl hcur hn4 hn3 hn2
   go_wp2_with fail
   go_loopw [3, 9] (fun v i wr => ∃ k : Nat, k ≤ xs.length ∧ i = .int .i64 k ∧ BRow w wr v ((xs.take k).flatMap encTok) ∧ wr.heap[gl]? = some (.cells cur 158 (0, 0))) (fun _ i _ => xs.length - (intOf i).toNat)
   case atStart => exact ⟨0, Nat.zero_le _, rfl, B1.out, HCUR.out.1⟩
   case round =>
     obtain ⟨k, hk, rfl, tb, hcu⟩ := hrel
     have TB := Lib.hid tb
     have HCU := Lib.hid hcu
     by_cases hlt : k < xs.length
     · obtain ⟨y, hy⟩ : ∃ y, xs[k]? = some y := ⟨_, List.getElem?_eq_getElem hlt⟩
       obtain ⟨c0, c1, c2⟩ := list_cells hcu HCUR.out.2 k y hy
       have HY := Lib.hid hy
       have hok := HOK.out y (List.mem_of_getElem? hy)
       have hlen : y.len ≤ 67 := by rcases hok with h | h <;> omega
       have htl : y.text.length ≤ 127 := by
         rcases hok with h | h
         · exact h.2.2.2
         · rw [h.1]; simp
       have hfar : y.far ≤ 255 := by rcases hok with h | h <;> omega
       have HOY := Lib.hid hok
       clear tb hcu hy hok
       have i1 : (k : Int) < (xs.length : Int) := by omega
       have HEN := Lib.hid (enc_part xs k y HY.out)
       by_cases hl : y.text = []
       · have HEY := Lib.hid (show encTok y = [UInt8.ofNat (124 + y.len), UInt8.ofNat y.far] by
           unfold encTok; rw [if_pos]; rcases HOY.out with h | h
           · rw [hl] at h; simp at h
           · omega)
         have HW := Lib.hid (show (124 + (y.len : Int)) = ((UInt8.ofNat (124 + y.len)).toNat : Int) ∧ (y.far : Int) = ((UInt8.ofNat y.far).toNat : Int) from ⟨by rw [UInt8.toNat_ofNat']; omega, by rw [UInt8.toNat_ofNat']; omega⟩)
         rw [hl] at c0
         go_wp2_with (at_builtin; refine wpList_plain rfl (fun K hK => ?_); refine op_pushL [UInt8.ofNat (124 + y.len), UInt8.ofNat y.far] _ _ rfl rfl rfl (two_bytes_at _ _ _ (by simp) HW.out.1 HW.out.2) ((TB.out.alloc _).alloc _) (by have := HEN.out.2; have := HTL.out; rw [HEY.out] at *; simp only [List.length_cons, List.length_nil] at *; omega) ?_; intro v2 w2 t2 hg2; refine hK _ _ ?_; clear hK K; have HB2 := Lib.hid ((hg2.block gl (lt_later (keep_block HCU.out _) _) (TB.out.apart HCU.out (by decide))).trans (keep_block (keep_block HCU.out _) _)); have T2 := Lib.hid t2; clear t2 hg2)
         go_roundw
         case rel => exact ⟨k + 1, by omega, by go_num, by rw [HEN.out.1, HEY.out]; exact T2.out, HB2.out⟩
         case measure => simp [intOf]; omega
       · have HEY := Lib.hid (show encTok y = UInt8.ofNat y.text.length :: y.text by
           unfold encTok; rw [if_neg]; rcases HOY.out with h | h
           · omega
           · exact absurd h.1 hl)
         have HW := Lib.hid (show (y.text.length : Int) = ((UInt8.ofNat y.text.length).toNat : Int) by rw [UInt8.toNat_ofNat']; omega)
         obtain ⟨Y, hY⟩ : ∃ Y : ByteArray, (⟨y.text.toArray⟩ : ByteArray) = Y := ⟨_, rfl⟩
         rw [hY] at c0
         have HYL := Lib.hid (show Y.data.toList = y.text by rw [← hY])
         have hYs : Y.size = y.text.length := by rw [← hY]; simp [ByteArray.size]
         have hne : Y.toList.isEmpty = false := by rw [ByteArray.toList_eq, List.isEmpty_eq_false_iff, HYL.out]; exact hl
         have hne2 : ¬ Y.toList = [] := by rw [ByteArray.toList_eq, HYL.out]; exact hl
         clear hY hl
         go_wp2_with (first
           | (at_builtin; refine wpList_plain rfl (fun K hK => ?_); refine op_pushL [UInt8.ofNat y.text.length] _ _ rfl rfl rfl (one_byte_at _ _ (by simp) HW.out) ((TB.out.alloc _).alloc _) (by have := HEN.out.2; have := HTL.out; simp only [List.length_cons, List.length_nil] at *; omega) ?_; intro v2 w2 t2 hg2; refine hK _ _ ?_; clear hK K; have HB2 := Lib.hid (kept_row (cs := #[]) TB.out HCU.out hg2); have hk0 := kept_var TB.out hg2 0; have T2 := Lib.hid t2; clear t2 hg2)
           | (at_builtin; refine wpList_plain rfl (fun K hK => ?_); refine op_pushS Y _ _ rfl rfl rfl T2.out (by have := HEN.out.2; have := HTL.out; rw [HEY.out] at *; simp at *; omega) ?_; intro v3 w3 t3 hg3; refine hK _ _ ?_; clear hK K; have HB3 := Lib.hid ((hg3.block gl (lt_of_block HB2.out) (T2.out.apart HB2.out (by decide))).trans HB2.out); have T3 := Lib.hid t3; clear t3 hg3))
         go_roundw
         case rel => exact ⟨k + 1, by omega, by go_num, by rw [HEN.out.1, HEY.out]; have h := T3.out; rw [HYL.out] at h; simpa using h, HB3.out⟩
         case measure => simp [intOf]; omega
     · obtain rfl : k = xs.length := by omega
       have e0 : xs.take xs.length = xs := List.take_of_length_le (Nat.le_refl _)
       rw [e0] at tb TB
       have HR := Lib.hid (show compress s.data.toList = xs.flatMap encTok by unfold compress; rw [HXS.out])
       obtain ⟨E, hE⟩ : ∃ E, xs.flatMap encTok = E := ⟨_, rfl⟩
       rw [hE] at tb TB HR
       clear hE e0 hcu
       obtain ⟨n, cc, g, hv, hcv⟩ := brow_conv tb
       subst hv
       clear tb
       go_wp2
       go_ret
       exact ⟨ret_text HR.out.symm, TB.out.below⟩
theorem BRow.other {w0 w w' : World} {v : Value} {xs : List UInt8} (t : BRow w0 w v xs) {C : Nat} (hC : some C ≠ v.ownBlock) (hw : w0.heap.size ≤ C) (hg : w.grownBy w' (some C)) : BRow w0 w' v xs := by
 refine ⟨?_, t.below.grown hg t.below.size (fun k hk => by cases hk; exact hw)⟩
 refine ⟨t.row.1, ?_⟩
 rcases t.row.2 with h2 | ⟨g, cap, cur, h1, h2, h3, r⟩
 · exact .inl h2
 · refine .inr ⟨g, cap, cur, h1, h2, (hg.block g ((Array.getElem?_eq_some_iff.1 h3).1) ?_).trans h3, r⟩
   intro e
   apply hC
   rw [h1]
   exact e.symm
theorem BRow.noRd {w0 w : World} {v : Value} {xs : List UInt8} (t : BRow w0 w v xs) {p : Nat} {s : ByteArray} {a : Int} (h : RdAt w p s a) : some p ≠ v.ownBlock := t.apart (U := 113) h (by decide)

structure UnAt (w wr : World) (s : ByteArray) (a : Nat) (v : Value) (out : List UInt8) : Prop where
 rd : RdAt wr w.heap.size s a
 row : BRow w wr v out
 left : TokLeft s.data.toList a out
theorem un_new (w : World) (s : ByteArray) : UnAt w (w.alloc (.cells #[.string s, .int .i64 0] 113)) s 0 (.slice none 0 0) [] :=
 ⟨rd_new w s 0, (brow_nil w).alloc _, left_new _⟩
theorem UnAt.drewN {w wr : World} {s : ByteArray} {a : Nat} {v : Value} {out : List UInt8} (t : UnAt w wr s a v out) (n : Nat) : UnAt w (wr.drewN n) s a v out := ⟨t.rd.drewN n, t.row.drewN n, t.left⟩

def KeptUn (w wi : World) (r : Nat) (s : ByteArray) (b : Nat) (Y : ByteArray) (y : Tok) : Prop :=
 wi.heap[r]? = some (.cells #[.string Y, .int .i64 y.len, .int .i64 y.far] 158 (0, 0)) ∧ RdAt wi w.heap.size s b
theorem kept_un {w w2 w3 : World} {v : Value} {out : List UInt8} {s Y : ByteArray} {b : Nat} {y : Tok} (t : BRow w w2 v out) (hr : RdAt w2 w.heap.size s b) (hg : (w2.alloc (.cells #[.string Y, .int .i64 y.len, .int .i64 y.far] 158)).grownBy w3 v.ownBlock) : KeptUn w w3 w2.heap.size s b Y y := by
 have h0 := heap_alloc_new w2 (.cells #[.string Y, .int .i64 y.len, .int .i64 y.far] 158)
 have hr' := hr.alloc (.cells #[.string Y, .int .i64 y.len, .int .i64 y.far] 158)
 exact ⟨(hg.block _ (lt_of_block h0) ((t.alloc _).apart h0 (by decide))).trans h0, hr'.keep (hg.block _ hr'.lt ((t.alloc _).noRd hr'))⟩
theorem KeptUn.more {w wi w4 : World} {r : Nat} {v : Value} {X : List UInt8} {s Y : ByteArray} {b : Nat} {y : Tok} {o : Obj} (h : KeptUn w wi r s b Y y) (t : BRow w wi v X) (hg : (wi.alloc o).grownBy w4 v.ownBlock) : KeptUn w w4 r s b Y y := by
 have h0 := keep_block h.1 o
 have hr' := h.2.alloc o
 exact ⟨(hg.block _ (lt_of_block h0) ((t.alloc _).apart h0 (by decide))).trans h0, hr'.keep (hg.block _ hr'.lt ((t.alloc _).noRd hr'))⟩

def UnOut (w : World) (l : List UInt8) (e : Ending) (w' : World) : Prop :=
 ∃ (T : ByteArray) (ok : Bool), e = .returned (.tuple #[.string T, .bool ok]) ∧ Below w.heap.size w w' ∧ (ok = false → ∀ x, ¬ Packs l x) ∧ (ok = true → T.size ≤ 2000 ∧ ∀ x, Packs l x → T.data.toList = x)

set_option maxHeartbeats 4000000 in
set_option maxRecDepth 100000 in
theorem implUnpack (s : ByteArray) (w : World) (hs : s.size ≤ 100000000) :
   Calls Tryz.prog 164 #[.string s] w (UnOut w s.data.toList) := by
 have hll : s.data.toList.length = s.size := by simp
 have HLL := Lib.hid hll
 have U0 := Lib.hid (un_new w s)
 have HS := Lib.hid (show s.size ≤ maxLen by unfold maxLen; omega)
 clear hll
 go_enter Tryz.func164, Tryz.ntmps164
 go_wp2_with fail
 go_loopw [4] (fun v wr => ∃ (a : Nat) (out : List UInt8), a ≤ s.size ∧ out.length ≤ 2000 ∧ UnAt w wr s a v out) (fun v wr => match wr.cell? ⟨w.heap.size, 1, none⟩ with | some (.int _ a) => s.size - a.toNat | _ => 0)
 case atStart => exact ⟨0, [], by omega, by simp, U0.out⟩
 case round =>
   obtain ⟨a, out, ha, hol, t⟩ := hrel
   have TT := Lib.hid t
   have HCA := Lib.hid t.rd.cells.2.1
   clear U0 t
   by_cases hlt : a < s.size
   · go_wp2_with fail
     refine (has_yes _ s a 1 _ TT.out.rd HS.out (by omega)).mono ?_
     rintro e w1 ⟨rfl, m, rfl⟩
     have T1 := Lib.hid (TT.out.drewN m)
     clear TT
     generalize wr.drewN m = w1 at *
     go_wp2_with fail
     refine (takeToken _ s a _ T1.out.rd (by omega) hlt).mono ?_
     have hlt' : a < s.data.toList.length := by rw [HLL.out]; exact hlt
     have HLT := Lib.hid hlt'
     clear hlt'
     cases hrt : readTok s.data.toList a with
     | none =>
       rintro e w2 ⟨rfl, hg2⟩
       have HNO := Lib.hid (left_none T1.out.left HLT.out hrt)
       have R2 := Lib.hid (T1.out.row.other (T1.out.row.noRd T1.out.rd) (Nat.le_refl _) hg2)
       clear hrt hg2
       go_wp2_with fail
       go_ret2
       exact ⟨_, _, rfl, (R2.out.below.alloc R2.out.below.size _), fun _ => HNO.out, fun h => by cases h⟩
     | some yb =>
       obtain ⟨y, b⟩ := yb
       rintro e w2 ⟨rfl, hr2, hg2⟩
       have R2 := Lib.hid (T1.out.row.other (T1.out.row.noRd T1.out.rd) (Nat.le_refl _) hg2)
       have RD2 := Lib.hid hr2
       have HRT := Lib.hid hrt
       have hok := readTok_ok hrt
       rw [HLL.out] at hok
       obtain ⟨hyok, hab, hbs⟩ := hok
       have hlen : y.len ≤ 67 := by rcases hyok with h | h <;> omega
       have htl : y.text.length ≤ 127 := by
         rcases hyok with h | h
         · exact h.2.2.2
         · rw [h.1]; simp
       have hfar : y.far ≤ 255 := by rcases hyok with h | h <;> omega
       have HFP := Lib.hid (show 0 < y.len → 1 ≤ y.far by rcases hyok with h | h <;> omega)
       clear hrt hr2 hg2 hyok
       obtain ⟨Y, hY⟩ : ∃ Y : ByteArray, (⟨y.text.toArray⟩ : ByteArray) = Y := ⟨_, rfl⟩
       rw [hY]
       have HYL := Lib.hid (show Y.data.toList = y.text by rw [← hY])
       have hYs : Y.size ≤ 127 := by rw [← hY]; simpa [ByteArray.size] using htl
       clear hY htl
       by_cases hfo : out.length < y.far
       · have HNO := Lib.hid (left_far T1.out.left HLT.out HRT.out hfo)
         obtain ⟨aa, cc, rfl, _⟩ := R2.out.form
         have d1 : (out.length : Int) < (y.far : Int) := by omega
         go_wp2_with fail
         go_ret2
         exact ⟨_, _, rfl, (R2.out.below.alloc R2.out.below.size _), fun _ => HNO.out, fun h => by cases h⟩
       · have d1 : ¬ (out.length : Int) < (y.far : Int) := by omega
         obtain ⟨aa, cc, rfl, _⟩ := R2.out.form
         have HNX := Lib.hid (left_next T1.out.left HLT.out HRT.out)
         go_wp2_with (at_builtin; refine wpList_plain rfl (fun K hK => ?_); refine op_pushS Y _ _ rfl rfl rfl (R2.out.alloc _) (by omega) ?_; intro v3 w3 t3 hg3; refine hK _ _ ?_; clear hK K; have K3 := Lib.hid (kept_un R2.out RD2.out hg3); have hc1 := (tok_block K3.out.1).2.1; have T3 := Lib.hid t3; clear t3 hg3)
         clear hc1
         go_loopw [4, 30] (fun v kk wi => ∃ k : Nat, k ≤ y.len ∧ kk = .int .i64 k ∧ BRow w wi v (copyOut (out ++ y.text) y.far k) ∧ KeptUn w wi w2.heap.size s b Y y) (fun _ kk _ => y.len - (intOf kk).toNat)
         case atStart => exact ⟨0, by omega, rfl, by have h := T3.out; rw [HYL.out] at h; exact h, K3.out⟩
         case round =>
           obtain ⟨k, hk, rfl, tk, kk⟩ := hrel
           have KK := Lib.hid kk
           have hc2 := (tok_block kk.1).2.2
           have hxl := copyOut_len (out ++ y.text) y.far k
           have hYl : y.text.length = Y.size := by rw [← HYL.out]; simp
           rw [List.length_append] at hxl
           obtain ⟨X, hX⟩ : ∃ X, copyOut (out ++ y.text) y.far k = X := ⟨_, rfl⟩
           have hX1 : copyOut (out ++ y.text) y.far (k + 1) = X ++ [X.getD (X.length - y.far) 0] := by rw [copyOut, hX]
           rw [hX] at tk hxl
           have HX := Lib.hid hX
           have HX1 := Lib.hid hX1
           have TX := Lib.hid tk
           obtain ⟨a', c', rfl, hcell⟩ := tk.form
           have HXL := Lib.hid hxl
           have x2 : X.length ≤ 2000 + 194 := by omega
           have x1 : y.far ≤ X.length := by omega
           clear hX hX1 tk kk hxl hYl
           by_cases hkl : k < y.len
           · have k1 : (k : Int) < (y.len : Int) := by omega
             have hf1 := HFP.out (by omega)
             obtain ⟨g, rfl, hc, hcell⟩ := hcell (X.length - y.far) (by omega)
             obtain ⟨z, hz⟩ : ∃ z, X.getD (X.length - y.far) 0 = z := ⟨_, rfl⟩
             rw [hz] at hcell HX1
             clear hz
             unfold u8v at hcell
             have x3 : ((X.length : Int) - (y.far : Int)).toNat = X.length - y.far := by omega
             have x4 : (X.length : Int) - (y.far : Int) < (X.length : Int) := by omega
             have x5 : (y.far : Int) ≤ (X.length : Int) := by omega
             have x6 : IntKind.i64.wrap ((X.length : Int) - (y.far : Int)) = (X.length : Int) - (y.far : Int) := IntWalk.i64_in _ (by omega)
             go_wp2_with (at_builtin; refine wpList_plain rfl (fun K hK => ?_); refine op_pushL [z] _ _ rfl rfl rfl (one_byte_at _ _ (by first | rfl | simp) rfl) (TX.out.alloc _) (by simp only [List.length_singleton]; omega) ?_; intro v4 w4 t4 hg4; refine hK _ _ ?_; clear hK K; have K4 := Lib.hid (KK.out.more TX.out hg4); have T4 := Lib.hid t4; clear t4 hg4)
             go_roundw
             case rel => exact ⟨k + 1, by omega, by go_num, by rw [HX1.out]; exact T4.out, K4.out⟩
             case measure => simp [intOf]; omega
           · obtain rfl : k = y.len := by omega
             have HGR := Lib.hid (show grow out y = X from HX.out)
             rw [HGR.out] at HNX
             have HCB := Lib.hid KK.out.2.cells.2.1
             clear hcell hc2
             by_cases h2 : 2000 < X.length
             · have HNO := Lib.hid (left_long HNX.out h2)
               have h2' : (2000 : Int) < (X.length : Int) := by omega
               go_wp2_with fail
               go_ret2
               exact ⟨_, _, rfl, TX.out.below, fun _ => HNO.out, fun h => by cases h⟩
             · have h2' : ¬ (2000 : Int) < (X.length : Int) := by omega
               go_wp2_with fail
               go_roundw
               case rel => exact ⟨b, X, hbs, by omega, ⟨KK.out.2, TX.out, HNX.out⟩⟩
               case measure => simp only [HCB.out, HCA.out]; omega
   · obtain rfl : a = s.size := by omega
     obtain ⟨n, c2, a2, hv, hcv⟩ := brow_conv (TT.out.row)
     subst hv
     obtain ⟨O, hO⟩ : ∃ O : ByteArray, (⟨out.toArray⟩ : ByteArray) = O := ⟨_, rfl⟩
     have HOD := Lib.hid (show O.data.toList = out by rw [← hO])
     have hOs : O.size ≤ 2000 := by rw [← hO]; simpa [ByteArray.size] using hol
     have HEN := Lib.hid (left_end TT.out.left (by rw [HLL.out]; omega))
     clear hcv
     go_wp2_with fail
     refine (has_no _ s s.size 1 _ TT.out.rd HS.out (by omega)).mono ?_
     rintro e w1 ⟨rfl, m, rfl⟩
     have T1 := Lib.hid (TT.out.drewN m)
     obtain ⟨n', c2', a2', hv, hcv⟩ := brow_conv T1.out.row
     cases hv
     rw [hO] at hcv
     clear TT hO
     go_wp2_with fail
     go_ret2
     exact ⟨O, true, rfl, T1.out.row.below, (fun h => by cases h), fun _ => ⟨hOs, fun x hx => by rw [HOD.out]; exact HEN.out x hx⟩⟩

set_option maxHeartbeats 2000000 in
set_option maxRecDepth 100000 in
theorem implExpand (s : ByteArray) (w : World) (hs : s.size ≤ 100000000) :
   Calls Tryz.prog 160 #[.string s] w (ExpOut w s.data.toList) := by
 go_enter Tryz.func160, Tryz.ntmps160
 go_wp2_with fail
 refine (implUnpack s _ hs).mono ?_
 rintro e w1 ⟨T, ok, rfl, b1, hno, hyes⟩
 have B1 := Lib.hid b1
 cases ok with
 | false =>
   have HN := Lib.hid (expand_not (hno rfl))
   clear b1 hno hyes
   go_wp2_with fail
   go_ret2
   exact ⟨ret_exp (a := ⟨#[]⟩) (by rw [HN.out.1]) HN.out.2.symm, B1.out⟩
 | true =>
   have HY := Lib.hid (hyes rfl)
   clear b1 hno hyes
   go_wp2_with fail
   refine (implCompress T _).mono ?_
   obtain ⟨C, hC⟩ : ∃ C : ByteArray, (⟨(compress T.data.toList).toArray⟩ : ByteArray) = C := ⟨_, rfl⟩
   have HCD := Lib.hid (show C.data.toList = compress T.data.toList by rw [← hC])
   unfold PackOut
   rw [hC]
   rintro e w2 ⟨rfl, b2⟩
   have B2 := Lib.hid (B1.out.trans (b2.mono B1.out.size))
   clear b2 hC
   by_cases hq : C = s
   · subst hq
     have hq1 := ne_false C
     have HP := Lib.hid (expand_yes (l := C.data.toList) (x := T.data.toList) ⟨by simpa using HY.out.1, HCD.out.symm⟩)
     go_wp2_with fail
     go_ret2
     exact ⟨ret_exp (bytes_ext (by rw [HP.out.1])) HP.out.2.symm, B2.out⟩
   · have hq1 : (!C.toList == s.toList) = true := ne_true (fun h => hq (bytes_ext h))
     have HN := Lib.hid (expand_not (l := s.data.toList) (fun x hx => hq (bytes_ext (by rw [HCD.out, HY.out.2 x hx, hx.2]))))
     go_wp2_with fail
     go_ret2
     exact ⟨ret_exp (a := ⟨#[]⟩) (by rw [HN.out.1]) HN.out.2.symm, B2.out⟩
theorem implSealed_as (s A : ByteArray) (hs : s.size ≤ 1000000000) (hA : A.data.toList = sealedB s.data.toList) (w : World) : Calls Tryz.prog 95 #[.string s] w (Same w A) :=
 (implSealed s w hs).mono fun e w' ⟨h1, h2⟩ => ⟨by rw [h1, as_text hA], h2⟩
theorem specSealed_as (s A : ByteArray) (hs : s.size ≤ 1000000000) (hA : A.data.toList = sealedB s.data.toList) (w : World) : Calls Tryz.prog 101 #[.string s] w (Same w A) :=
 (specSealed s w hs).mono fun e w' ⟨h1, h2⟩ => ⟨by rw [h1, as_text hA], h2⟩
theorem implCompress_as (s A : ByteArray) (hA : A.data.toList = compress s.data.toList) (w : World) : Calls Tryz.prog 94 #[.string s] w (Same w A) :=
 (implCompress s w).mono fun e w' ⟨h1, h2⟩ => ⟨by rw [h1, as_text hA], h2⟩
theorem specCompress_as (s A : ByteArray) (hA : A.data.toList = compress s.data.toList) (w : World) : Calls Tryz.prog 100 #[.string s] w (Same w A) :=
 (specCompress s w).mono fun e w' ⟨h1, h2⟩ => ⟨by rw [h1, as_text hA], h2⟩
def PairIs (w : World) (A : ByteArray) (b : Bool) (e : Ending) (w' : World) : Prop := e = .returned (.tuple #[.string A, .bool b]) ∧ Below w.heap.size w w'
theorem implExpand_as (s A : ByteArray) (b : Bool) (hs : s.size ≤ 100000000) (hA : A.data.toList = expand1 s.data.toList) (hb : b = expand2 s.data.toList) (w : World) : Calls Tryz.prog 160 #[.string s] w (PairIs w A b) :=
 (implExpand s w hs).mono fun e w' ⟨h1, h2⟩ => ⟨by rw [h1, as_text hA, hb], h2⟩
theorem specExpand_as (s A : ByteArray) (b : Bool) (hs : s.size ≤ 100000000) (hA : A.data.toList = expand1 s.data.toList) (hb : b = expand2 s.data.toList) (w : World) : Calls Tryz.prog 112 #[.string s] w (PairIs w A b) :=
 (specExpand s w hs).mono fun e w' ⟨h1, h2⟩ => ⟨by rw [h1, as_text hA, hb], h2⟩
theorem implOpened_as (s A : ByteArray) (b : Bool) (hs : s.size ≤ 1000000000) (hA : A.data.toList = opened1 s.data.toList) (hb : b = opened2 s.data.toList) (w : World) : Calls Tryz.prog 159 #[.string s] w (PairIs w A b) :=
 (implOpened s w hs).mono fun e w' ⟨h1, h2⟩ => ⟨by rw [h1, as_text hA, hb], h2⟩
theorem specOpened_as (s A : ByteArray) (b : Bool) (hs : s.size ≤ 1000000000) (hA : A.data.toList = opened1 s.data.toList) (hb : b = opened2 s.data.toList) (w : World) : Calls Tryz.prog 111 #[.string s] w (PairIs w A b) :=
 (specOpened s w hs).mono fun e w' ⟨h1, h2⟩ => ⟨by rw [h1, as_text hA, hb], h2⟩
theorem behind1 (A : ByteArray) (c : UInt8) : (A ++ ⟨#[c]⟩).data.toList = A.data.toList ++ [c] ∧ (A ++ ⟨#[c]⟩).size = A.size + 1 := by
 constructor
 · rw [ByteArray.data_append, Array.toList_append]
 · rw [ByteArray.size_append]; rfl
theorem no_text {A : ByteArray} (h : A.data.toList = []) : A = ⟨#[]⟩ := bytes_ext (by rw [h])

set_option maxHeartbeats 1000000 in
set_option maxRecDepth 100000 in
theorem implWrap (s A : ByteArray) (p : Bool) (hA : A.data.toList = wrapB s.data.toList p) (w : World) : Calls Tryz.prog 50 #[.string s, .bool p] w (Same w A) := by
 have hl : s.data.toList.length = s.size := by simp
 by_cases hs : s.size ≤ 2000
 · have HB := Lib.hid (behind1 s 0)
   cases p
   · have HA := Lib.hid (hA.trans (wrap_plain (by rw [hl]; exact hs) (fun h => by cases h)))
     clear hA hl
     go_enter Tryz.func50, Tryz.ntmps50
     go_wp2_with fail
     refine (implSealed_as _ A (by rw [HB.out.2]; omega) (by rw [HB.out.1]; exact HA.out) _).mono ?_
     rintro e w1 ⟨rfl, b1⟩
     have B1 := Lib.hid b1
     clear b1
     go_wp2
     go_ret
     exact ⟨rfl, B1.out⟩
   · obtain ⟨C, hC, hCs⟩ := text_of (compress s.data.toList)
     have hC9 : C.size ≤ 4001 := by rw [hCs]; exact compress_len _
     have HC := Lib.hid hC
     have HBC := Lib.hid (behind1 C 1)
     by_cases hlt : C.size < s.size
     · have HA := Lib.hid (hA.trans (wrap_packed (by rw [hl]; exact hs) (by rw [← hCs, hl]; exact hlt)))
       have hlt' : (C.size : Int) < (s.size : Int) := by omega
       clear hA hl hC hCs
       go_enter Tryz.func50, Tryz.ntmps50
       go_wp2_with fail
       refine (implCompress_as s C HC.out _).mono ?_
       rintro e w1 ⟨rfl, b1⟩
       have B1 := Lib.hid b1
       clear b1
       go_wp2_with fail
       refine (implSealed_as _ A (by rw [HBC.out.2]; omega) (by rw [HBC.out.1, HC.out]; exact HA.out) _).mono ?_
       rintro e w2 ⟨rfl, b2⟩
       have B2 := Lib.hid (B1.out.trans (b2.mono B1.out.size))
       clear b2
       go_wp2
       go_ret
       exact ⟨rfl, B2.out⟩
     · have HA := Lib.hid (hA.trans (wrap_plain (by rw [hl]; exact hs) (fun _ => by rw [← hCs, hl]; omega)))
       have hlt' : ¬ (C.size : Int) < (s.size : Int) := by omega
       clear hA hl hC hCs
       go_enter Tryz.func50, Tryz.ntmps50
       go_wp2_with fail
       refine (implCompress_as s C HC.out _).mono ?_
       rintro e w1 ⟨rfl, b1⟩
       have B1 := Lib.hid b1
       clear b1
       go_wp2_with fail
       refine (implSealed_as _ A (by rw [HB.out.2]; omega) (by rw [HB.out.1]; exact HA.out) _).mono ?_
       rintro e w2 ⟨rfl, b2⟩
       have B2 := Lib.hid (B1.out.trans (b2.mono B1.out.size))
       clear b2
       go_wp2
       go_ret
       exact ⟨rfl, B2.out⟩
 · rw [wrap_long p (by rw [hl]; omega)] at hA
   rw [no_text hA]
   clear hA hl
   go_enter Tryz.func50, Tryz.ntmps50
   go_wp2
   go_ret
   exact ⟨rfl, Below.refl _ _⟩

set_option maxHeartbeats 1000000 in
set_option maxRecDepth 100000 in
theorem specWrap (s A : ByteArray) (p : Bool) (hA : A.data.toList = wrapB s.data.toList p) (w : World) : Calls Tryz.prog 54 #[.string s, .bool p] w (Same w A) := by
 have hl : s.data.toList.length = s.size := by simp
 by_cases hs : s.size ≤ 2000
 · have HB := Lib.hid (behind1 s 0)
   obtain ⟨C, hC, hCs⟩ := text_of (compress s.data.toList)
   have hC9 : C.size ≤ 4001 := by rw [hCs]; exact compress_len _
   have HC := Lib.hid hC
   have HBC := Lib.hid (behind1 C 1)
   cases p
   · have HA := Lib.hid (hA.trans (wrap_plain (by rw [hl]; exact hs) (fun h => by cases h)))
     clear hA hl hC hCs
     go_enter Tryz.func54, Tryz.ntmps54
     go_wp2_with fail
     refine (specCompress_as s C HC.out _).mono ?_
     rintro e w1 ⟨rfl, b1⟩
     have B1 := Lib.hid b1
     clear b1
     go_wp2_with fail
     refine (specSealed_as _ A (by rw [HB.out.2]; omega) (by rw [HB.out.1]; exact HA.out) _).mono ?_
     rintro e w2 ⟨rfl, b2⟩
     have B2 := Lib.hid (B1.out.trans (b2.mono B1.out.size))
     clear b2
     go_wp2
     go_ret
     exact ⟨rfl, B2.out⟩
   · by_cases hlt : C.size < s.size
     · have HA := Lib.hid (hA.trans (wrap_packed (by rw [hl]; exact hs) (by rw [← hCs, hl]; exact hlt)))
       have hlt' : (C.size : Int) < (s.size : Int) := by omega
       clear hA hl hC hCs
       go_enter Tryz.func54, Tryz.ntmps54
       go_wp2_with fail
       refine (specCompress_as s C HC.out _).mono ?_
       rintro e w1 ⟨rfl, b1⟩
       have B1 := Lib.hid b1
       clear b1
       go_wp2_with fail
       refine (specSealed_as _ A (by rw [HBC.out.2]; omega) (by rw [HBC.out.1, HC.out]; exact HA.out) _).mono ?_
       rintro e w2 ⟨rfl, b2⟩
       have B2 := Lib.hid (B1.out.trans (b2.mono B1.out.size))
       clear b2
       go_wp2
       go_ret
       exact ⟨rfl, B2.out⟩
     · have HA := Lib.hid (hA.trans (wrap_plain (by rw [hl]; exact hs) (fun _ => by rw [← hCs, hl]; omega)))
       have hlt' : ¬ (C.size : Int) < (s.size : Int) := by omega
       clear hA hl hC hCs
       go_enter Tryz.func54, Tryz.ntmps54
       go_wp2_with fail
       refine (specCompress_as s C HC.out _).mono ?_
       rintro e w1 ⟨rfl, b1⟩
       have B1 := Lib.hid b1
       clear b1
       go_wp2_with fail
       refine (specSealed_as _ A (by rw [HB.out.2]; omega) (by rw [HB.out.1]; exact HA.out) _).mono ?_
       rintro e w2 ⟨rfl, b2⟩
       have B2 := Lib.hid (B1.out.trans (b2.mono B1.out.size))
       clear b2
       go_wp2
       go_ret
       exact ⟨rfl, B2.out⟩
 · rw [wrap_long p (by rw [hl]; omega)] at hA
   rw [no_text hA]
   clear hA hl
   go_enter Tryz.func54, Tryz.ntmps54
   go_wp2
   go_ret
   exact ⟨rfl, Below.refl _ _⟩
def UnwIs (w : World) (A : ByteArray) (k : Nat) (e : Ending) (w' : World) : Prop := e = .returned (.tuple #[.string A, .int .i64 k]) ∧ Below w.heap.size w w'
theorem tail_list (s : ByteArray) (n : Nat) (h : n + 1 = s.size) : (s.extract n s.size).data.toList = [s.data.toList.getD n 0] := by
 simp only [ByteArray.data_extract, Array.toList_extract, List.extract_eq_take_drop]
 have hl : s.data.toList.length = s.size := by simp
 rw [show s.size - n = 1 by omega, List.drop_eq_getElem_cons (by rw [hl]; omega), List.take_succ_cons, List.take_zero]
 simp [List.getD_eq_getElem?_getD, show n < s.size by omega]
theorem byte_getD (s : ByteArray) (n : Nat) (h : n < s.size) : s[n] = s.data.toList.getD n 0 := by
 simp [List.getD_eq_getElem?_getD, h]
 rfl

theorem mark_three (c : UInt8) : 1 < c.toNat ∨ c = 0 ∨ c = 1 := by
 by_cases h : 1 < c.toNat
 · exact .inl h
 · have : c.toNat = 0 ∨ c.toNat = 1 := by omega
   rcases this with h | h
   · exact .inr (.inl (UInt8.toNat_inj.1 (by simpa using h)))
   · exact .inr (.inr (UInt8.toNat_inj.1 (by simpa using h)))

set_option maxHeartbeats 2000000 in
set_option maxRecDepth 100000 in
theorem implUnwrap (s A : ByteArray) (k : Nat) (hs : s.size ≤ 1048576) (hA : (A.data.toList, k) = unwrapB s.data.toList) (w : World) : Calls Tryz.prog 154 #[.string s] w (UnwIs w A k) := by
 have hl : s.data.toList.length = s.size := by simp
 by_cases h5 : s.size < 5
 · rw [unwrap_short (by rw [hl]; exact h5)] at hA
   obtain ⟨h1, rfl⟩ := Prod.mk.inj hA
   rw [no_text h1]
   clear hA h1 hl
   go_enter Tryz.func154, Tryz.ntmps154
   go_wp2
   go_ret2
   exact ⟨rfl, Below.refl _ _⟩
 · obtain ⟨X, hX, hXs⟩ := text_of (opened1 s.data.toList)
   have HX := Lib.hid hX
   cases ho : opened2 s.data.toList
   · rw [unwrap_crc (by rw [hl]; omega) ho] at hA
     obtain ⟨h1, rfl⟩ := Prod.mk.inj hA
     rw [no_text h1]
     have HO := Lib.hid ho
     clear hA h1 hl hX hXs ho
     go_enter Tryz.func154, Tryz.ntmps154
     go_wp2_with fail
     refine (implOpened_as s X false (by omega) HX.out HO.out.symm _).mono ?_
     rintro e w1 ⟨rfl, b1⟩
     have B1 := Lib.hid b1
     clear b1
     go_wp2
     go_ret2
     exact ⟨rfl, B1.out⟩
   · have HO := Lib.hid ho
     have hz := (opened_parts (by rw [hl]; omega) ho).2
     rw [← hXs, hl] at hz
     obtain ⟨n, hn⟩ : ∃ n, n + 1 = X.size := ⟨X.size - 1, by omega⟩
     have hn1 : (X.size : Int) - 1 = (n : Int) := by omega
     have n1 : n ≤ X.size := by omega
     have n2 : (n : Int) ≤ (X.size : Int) := by omega
     have n3 : IntKind.i64.wrap (n : Int) = (n : Int) := IntWalk.i64_in _ (by omega)
     have n4 : (0 : Int) ≤ (n : Int) := by omega
     have hXl : X.data.toList.length = X.size := by simp
     have hbd : (X.extract 0 n).data.toList = bodyOf X.data.toList := by
       rw [head_list]; unfold bodyOf; rw [hXl, ← hn]; rfl
     have htl := tail_list X n hn
     have hLs : (X.extract 0 n).size ≤ 1048576 := by rw [ByteArray.size_extract]; omega
     obtain ⟨c, hc⟩ : ∃ c, X.data.toList.getD n 0 = c := ⟨_, rfl⟩
     have hmk : markOf X.data.toList = c.toNat := by unfold markOf; rw [hXl, ← hn, ← hc]; rfl
     rw [hc] at htl
     obtain ⟨L, hL⟩ : ∃ L, X.extract 0 n = L := ⟨_, rfl⟩
     obtain ⟨T, hT⟩ : ∃ T, X.extract n X.size = T := ⟨_, rfl⟩
     rw [hL] at hbd hLs
     rw [hT] at htl
     have HBD := Lib.hid hbd
     have HMK := Lib.hid hmk
     have htt : T.toList = [c] := by rw [ByteArray.toList_eq]; exact htl
     have HA := Lib.hid hA
     have HSL := Lib.hid hl
     have HS5 := Lib.hid (show 5 ≤ s.data.toList.length by rw [hl]; omega)
     clear hA hX hXs ho hl hz hXl hbd hmk hc htl
     go_enter Tryz.func154, Tryz.ntmps154
     go_wp2_with fail
     refine (implOpened_as s X true (by omega) HX.out HO.out.symm _).mono ?_
     rintro e w1 ⟨rfl, b1⟩
     have B1 := Lib.hid b1
     clear b1
     go_wp2_with fail
     go_quiet (fail)
     rcases mark_three c with h1 | rfl | rfl
     · have e1 : Op.bytesLess [c] [1] = false := by simp [Op.bytesLess, UInt8.lt_iff_toNat_lt]; omega
       have e2 : (c == 1) = false := by rw [beq_eq_false_iff_ne]; rintro rfl; exact absurd h1 (by decide)
       have hR := HA.out
       rw [unwrap_tag HS5.out HO.out (by rw [← HX.out, HMK.out]; exact h1)] at hR
       obtain ⟨q1, rfl⟩ := Prod.mk.inj hR
       obtain rfl := no_text q1
       clear hR q1
       go_wp2
       go_ret2
       exact ⟨rfl, B1.out.trans (below_draws _)⟩
     · have e1 : Op.bytesLess [0] [1] = true := by decide
       have e2 : ((0 : UInt8) == 1) = false := by decide
       have HT := Lib.hid (show textOf X.data.toList = L.data.toList by unfold textOf; rw [HMK.out, if_neg (by decide), HBD.out])
       obtain ⟨W, hW, hWs⟩ := text_of (wrapB L.data.toList false)
       have HW := Lib.hid hW
       have HB1 := Lib.hid (B1.out.trans (below_draws (B := w.heap.size) nq))
       generalize w1.drewN nq = w2 at *
       clear hW hWs
       go_wp2_with fail
       refine (implWrap L W false HW.out _).mono ?_
       rintro e w3 ⟨rfl, b3⟩
       have B3 := Lib.hid (HB1.out.trans (b3.mono HB1.out.size))
       clear b3
       by_cases hsame : W.data.toList = s.data.toList
       · have e3 : (W.toList == s.toList) = true := by rw [ByteArray.toList_eq, ByteArray.toList_eq, hsame]; simp
         have hR := HA.out
         rw [unwrap_yes HS5.out HO.out (by rw [← HX.out, HMK.out]; decide) (by rw [← HX.out, HMK.out, HT.out, ← hsame]; exact HW.out.symm), ← HX.out, HT.out] at hR
         obtain ⟨q1, rfl⟩ := Prod.mk.inj hR
         obtain rfl : A = L := bytes_ext q1
         clear hR q1 hsame
         go_wp2
         go_ret2
         exact ⟨rfl, B3.out⟩
       · have e3 : (W.toList == s.toList) = false := by rw [ByteArray.toList_eq, ByteArray.toList_eq]; simpa using hsame
         have hR := HA.out
         rw [unwrap_no HS5.out HO.out (by rw [← HX.out, HMK.out]; decide) (by rw [← HX.out, HMK.out, HT.out]; intro h; exact hsame (HW.out.trans h))] at hR
         obtain ⟨q1, rfl⟩ := Prod.mk.inj hR
         obtain rfl := no_text q1
         clear hR q1 hsame
         go_wp2
         go_ret2
         exact ⟨rfl, B3.out⟩
     · have e1 : Op.bytesLess [1] [1] = false := by decide
       have e2 : ((1 : UInt8) == 1) = true := by decide
       obtain ⟨E, hE, hEs⟩ := text_of (expand1 L.data.toList)
       have HE := Lib.hid hE
       have HT := Lib.hid (show textOf X.data.toList = E.data.toList by unfold textOf; rw [HMK.out, if_pos (show UInt8.toNat 1 = 1 from rfl), HE.out, HBD.out])
       obtain ⟨b, hb⟩ : ∃ b, expand2 L.data.toList = b := ⟨_, rfl⟩
       have HX2 := Lib.hid hb
       have HB1 := Lib.hid (B1.out.trans (below_draws (B := w.heap.size) nq))
       generalize w1.drewN nq = w2 at *
       clear hE hEs hb
       go_wp2_with fail
       refine (implExpand_as L E b (by omega) HE.out HX2.out.symm _).mono ?_
       rintro e w3 ⟨rfl, b3⟩
       have B3 := Lib.hid (HB1.out.trans (b3.mono HB1.out.size))
       clear b3
       cases b
       · have hR := HA.out
         rw [unwrap_not HS5.out HO.out (by rw [← HX.out, HMK.out]; rfl) (by rw [← HX.out, ← HBD.out]; exact HX2.out)] at hR
         obtain ⟨q1, rfl⟩ := Prod.mk.inj hR
         obtain rfl := no_text q1
         clear hR q1
         go_wp2
         go_ret2
         exact ⟨rfl, B3.out⟩
       · obtain ⟨W, hW, hWs⟩ := text_of (wrapB E.data.toList true)
         have HW := Lib.hid hW
         clear hW hWs
         go_wp2_with fail
         refine (implWrap E W true HW.out _).mono ?_
         rintro e w4 ⟨rfl, b4⟩
         have B4 := Lib.hid (B3.out.trans (b4.mono B3.out.size))
         clear b4
         by_cases hsame : W.data.toList = s.data.toList
         · have e3 : (W.toList == s.toList) = true := by rw [ByteArray.toList_eq, ByteArray.toList_eq, hsame]; simp
           have hR := HA.out
           rw [unwrap_yes HS5.out HO.out (by rw [← HX.out, HMK.out]; decide) (by rw [← HX.out, HMK.out, HT.out, ← hsame]; exact HW.out.symm), ← HX.out, HT.out] at hR
           obtain ⟨q1, rfl⟩ := Prod.mk.inj hR
           obtain rfl : A = E := bytes_ext q1
           clear hR q1 hsame
           go_wp2
           go_ret2
           exact ⟨rfl, B4.out⟩
         · have e3 : (W.toList == s.toList) = false := by rw [ByteArray.toList_eq, ByteArray.toList_eq]; simpa using hsame
           have hR := HA.out
           rw [unwrap_no HS5.out HO.out (by rw [← HX.out, HMK.out]; decide) (by rw [← HX.out, HMK.out, HT.out]; intro h; exact hsame (HW.out.trans h))] at hR
           obtain ⟨q1, rfl⟩ := Prod.mk.inj hR
           obtain rfl := no_text q1
           clear hR q1 hsame
           go_wp2
           go_ret2
           exact ⟨rfl, B4.out⟩

set_option maxHeartbeats 2000000 in
set_option maxRecDepth 100000 in
theorem specUnwrap (s A : ByteArray) (k : Nat) (hs : s.size ≤ 1048576) (hA : (A.data.toList, k) = unwrapB s.data.toList) (w : World) : Calls Tryz.prog 67 #[.string s] w (UnwIs w A k) := by
 have hl : s.data.toList.length = s.size := by simp
 by_cases h5 : s.size < 5
 · rw [unwrap_short (by rw [hl]; exact h5)] at hA
   obtain ⟨h1, rfl⟩ := Prod.mk.inj hA
   rw [no_text h1]
   clear hA h1 hl
   go_enter Tryz.func67, Tryz.ntmps67
   go_wp2
   go_ret2
   exact ⟨rfl, Below.refl _ _⟩
 · obtain ⟨X, hX, hXs⟩ := text_of (opened1 s.data.toList)
   have HX := Lib.hid hX
   cases ho : opened2 s.data.toList
   · rw [unwrap_crc (by rw [hl]; omega) ho] at hA
     obtain ⟨h1, rfl⟩ := Prod.mk.inj hA
     rw [no_text h1]
     have HO := Lib.hid ho
     clear hA h1 hl hX hXs ho
     go_enter Tryz.func67, Tryz.ntmps67
     go_wp2_with fail
     refine (specOpened_as s X false (by omega) HX.out HO.out.symm _).mono ?_
     rintro e w1 ⟨rfl, b1⟩
     have B1 := Lib.hid b1
     clear b1
     go_wp2
     go_ret2
     exact ⟨rfl, B1.out⟩
   · have HO := Lib.hid ho
     have hz := (opened_parts (by rw [hl]; omega) ho).2
     rw [← hXs, hl] at hz
     obtain ⟨n, hn⟩ : ∃ n, n + 1 = X.size := ⟨X.size - 1, by omega⟩
     have hn1 : (X.size : Int) - 1 = (n : Int) := by omega
     have n1 : n ≤ X.size := by omega
     have n2 : (n : Int) ≤ (X.size : Int) := by omega
     have n3 : IntKind.i64.wrap (n : Int) = (n : Int) := IntWalk.i64_in _ (by omega)
     have n4 : (0 : Int) ≤ (n : Int) := by omega
     have hXl : X.data.toList.length = X.size := by simp
     have hbd : (X.extract 0 n).data.toList = bodyOf X.data.toList := by
       rw [head_list]; unfold bodyOf; rw [hXl, ← hn]; rfl
     have hLs : (X.extract 0 n).size ≤ 1048576 := by rw [ByteArray.size_extract]; omega
     obtain ⟨c, hc⟩ : ∃ c, X.data.toList.getD n 0 = c := ⟨_, rfl⟩
     have hmk : markOf X.data.toList = c.toNat := by unfold markOf; rw [hXl, ← hn, ← hc]; rfl
     obtain ⟨L, hL⟩ : ∃ L, X.extract 0 n = L := ⟨_, rfl⟩
     rw [hL] at hbd hLs
     have HBD := Lib.hid hbd
     have HMK := Lib.hid hmk
     have hn3 : (n : Int) < (X.size : Int) := by omega
     have hnX : n < X.size := by omega
     have hcx : ((X[n]'hnX).toNat : Int) = (c.toNat : Int) := by rw [byte_getD X n hnX, hc]
     have HA := Lib.hid hA
     have HSL := Lib.hid hl
     have HS5 := Lib.hid (show 5 ≤ s.data.toList.length by rw [hl]; omega)
     clear hA hX hXs ho hl hz hXl hbd hmk hc
     go_enter Tryz.func67, Tryz.ntmps67
     go_wp2_with fail
     refine (specOpened_as s X true (by omega) HX.out HO.out.symm _).mono ?_
     rintro e w1 ⟨rfl, b1⟩
     have B1 := Lib.hid b1
     clear b1
     rcases mark_three c with h1 | rfl | rfl
     · have h2 : (1 : Int) < (c.toNat : Int) := by omega
       have hR := HA.out
       rw [unwrap_tag HS5.out HO.out (by rw [← HX.out, HMK.out]; exact h1)] at hR
       obtain ⟨q1, rfl⟩ := Prod.mk.inj hR
       obtain rfl := no_text q1
       clear hR q1
       go_wp2
       go_ret2
       exact ⟨rfl, B1.out⟩
     · rw [show ((UInt8.toNat 0 : Nat) : Int) = 0 from rfl] at hcx
       have HT := Lib.hid (show textOf X.data.toList = L.data.toList by unfold textOf; rw [HMK.out, if_neg (by decide), HBD.out])
       obtain ⟨W, hW, hWs⟩ := text_of (wrapB L.data.toList false)
       have HW := Lib.hid hW
       have HB1 := Lib.hid B1.out
       clear hW hWs
       go_wp2_with fail
       refine (specWrap L W false HW.out _).mono ?_
       rintro e w3 ⟨rfl, b3⟩
       have B3 := Lib.hid (HB1.out.trans (b3.mono HB1.out.size))
       clear b3
       by_cases hsame : W.data.toList = s.data.toList
       · have e3 : (W.toList == s.toList) = true := by rw [ByteArray.toList_eq, ByteArray.toList_eq, hsame]; simp
         have hR := HA.out
         rw [unwrap_yes HS5.out HO.out (by rw [← HX.out, HMK.out]; decide) (by rw [← HX.out, HMK.out, HT.out, ← hsame]; exact HW.out.symm), ← HX.out, HT.out] at hR
         obtain ⟨q1, rfl⟩ := Prod.mk.inj hR
         obtain rfl : A = L := bytes_ext q1
         clear hR q1 hsame
         go_wp2
         go_ret2
         exact ⟨rfl, B3.out⟩
       · have e3 : (W.toList == s.toList) = false := by rw [ByteArray.toList_eq, ByteArray.toList_eq]; simpa using hsame
         have hR := HA.out
         rw [unwrap_no HS5.out HO.out (by rw [← HX.out, HMK.out]; decide) (by rw [← HX.out, HMK.out, HT.out]; intro h; exact hsame (HW.out.trans h))] at hR
         obtain ⟨q1, rfl⟩ := Prod.mk.inj hR
         obtain rfl := no_text q1
         clear hR q1 hsame
         go_wp2
         go_ret2
         exact ⟨rfl, B3.out⟩
     · rw [show ((UInt8.toNat 1 : Nat) : Int) = 1 from rfl] at hcx
       obtain ⟨E, hE, hEs⟩ := text_of (expand1 L.data.toList)
       have HE := Lib.hid hE
       have HT := Lib.hid (show textOf X.data.toList = E.data.toList by unfold textOf; rw [HMK.out, if_pos (show UInt8.toNat 1 = 1 from rfl), HE.out, HBD.out])
       obtain ⟨b, hb⟩ : ∃ b, expand2 L.data.toList = b := ⟨_, rfl⟩
       have HX2 := Lib.hid hb
       have HB1 := Lib.hid B1.out
       clear hE hEs hb
       go_wp2_with fail
       refine (specExpand_as L E b (by omega) HE.out HX2.out.symm _).mono ?_
       rintro e w3 ⟨rfl, b3⟩
       have B3 := Lib.hid (HB1.out.trans (b3.mono HB1.out.size))
       clear b3
       obtain ⟨W, hW, hWs⟩ := text_of (wrapB E.data.toList true)
       have HW := Lib.hid hW
       clear hW hWs
       go_wp2_with fail
       refine (specWrap E W true HW.out _).mono ?_
       rintro e w4 ⟨rfl, b4⟩
       have B4 := Lib.hid (B3.out.trans (b4.mono B3.out.size))
       clear b4
       by_cases hsame : W.data.toList = s.data.toList
       · have e3 : (W.toList == s.toList) = true := by rw [ByteArray.toList_eq, ByteArray.toList_eq, hsame]; simp
         have hR := HA.out
         rw [unwrap_yes HS5.out HO.out (by rw [← HX.out, HMK.out]; decide) (by rw [← HX.out, HMK.out, HT.out, ← hsame]; exact HW.out.symm), ← HX.out, HT.out] at hR
         obtain ⟨q1, rfl⟩ := Prod.mk.inj hR
         obtain rfl : A = E := bytes_ext q1
         clear hR q1 hsame
         go_wp2
         go_ret2
         exact ⟨rfl, B4.out⟩
       · have e3 : (W.toList == s.toList) = false := by rw [ByteArray.toList_eq, ByteArray.toList_eq]; simpa using hsame
         have hR := HA.out
         rw [unwrap_no HS5.out HO.out (by rw [← HX.out, HMK.out]; decide) (by rw [← HX.out, HMK.out, HT.out]; intro h; exact hsame (HW.out.trans h))] at hR
         obtain ⟨q1, rfl⟩ := Prod.mk.inj hR
         obtain rfl := no_text q1
         clear hR q1 hsame
         go_wp2
         go_ret2
         exact ⟨rfl, B4.out⟩

def IdxRead (w : World) (p : Nat) (s : ByteArray) (a : Nat) (e : Ending) (w' : World) : Prop :=
 w.grownBy w' (some p) ∧ ((∃ x z b : Nat, idxRaw s.data.toList a = some (x, z, b) ∧ e = .returned (.tuple #[.int .i64 x, .int .i64 z, .bool true]) ∧ RdAt w' p s b) ∨
   (idxRaw s.data.toList a = none ∧ ∃ n m : Int, e = .returned (.tuple #[.int .i64 n, .int .i64 m, .bool false])))
set_option maxHeartbeats 2000000 in
set_option maxRecDepth 100000 in
theorem takeIndexed_at (p : Nat) (s : ByteArray) (a : Nat) (w : World) (h : RdAt w p s a) (hs : s.size ≤ 1048576) (ha : a ≤ s.size) :
   Calls Tryz.prog 137 #[.pointer (some ⟨p, 0, none⟩)] w (IdxRead w p s a) := by
 have HLL := Lib.hid (show s.data.toList.length = s.size by simp)
 have HS := Lib.hid (show s.size ≤ maxLen by unfold maxLen; omega)
 have HH := Lib.hid h
 clear h
 go_enter Tryz.func137, Tryz.ntmps137
 go_wp2_with fail
 refine (takeVar_in p s a _ HH.out HS.out ha).mono ?_
 rintro e w1 ⟨g1, (⟨v1, hv1, rfl, r1⟩ | ⟨hv1, rfl⟩)⟩
 · obtain ⟨k1, k2, k3⟩ := var_pos hv1
   rw [HLL.out] at k2
   have H1 := Lib.hid hv1
   obtain ⟨n1, hn1⟩ : ∃ n, varVal v1 = n := ⟨_, rfl⟩
   obtain ⟨l1, hl1⟩ : ∃ n, v1.length = n := ⟨_, rfl⟩
   have HN1 := Lib.hid hn1
   have HL1 := Lib.hid hl1
   have R1 := Lib.hid (show RdAt w1 p s ((a + l1 : Nat) : Int) by rw [hl1] at r1; rw [Int.natCast_add]; exact r1)
   have G1 := Lib.hid g1
   rw [hn1] at k3 ⊢
   rw [hl1] at k1 k2
   clear hv1 hn1 hl1 r1 g1
   by_cases hf : a + l1 + n1 ≤ s.size
   · go_wp2_with fail
     refine (take_yes p s (a + l1) n1 _ R1.out HS.out hf).mono ?_
     rintro e w2 ⟨rfl, r2, g2⟩
     have R2 := Lib.hid (show RdAt w2 p s ((a + l1 + n1 : Nat) : Int) from r2)
     have G2 := Lib.hid (G1.out.trans g2)
     clear r2 g2
     go_wp2_with fail
     refine (takeVar_in p s (a + l1 + n1) _ R2.out HS.out hf).mono ?_
     rintro e w3 ⟨g3, (⟨v2, hv2, rfl, r3⟩ | ⟨hv2, rfl⟩)⟩
     · obtain ⟨m1, m2, m3⟩ := var_pos hv2
       rw [HLL.out] at m2
       have H2 := Lib.hid hv2
       obtain ⟨n2, hn2⟩ : ∃ n, varVal v2 = n := ⟨_, rfl⟩
       obtain ⟨l2, hl2⟩ : ∃ n, v2.length = n := ⟨_, rfl⟩
       have HN2 := Lib.hid hn2
       have HL2 := Lib.hid hl2
       have R3 := Lib.hid (show RdAt w3 p s ((a + l1 + n1 + l2 : Nat) : Int) by rw [hl2] at r3; rw [Int.natCast_add]; exact r3)
       have G3 := Lib.hid (G2.out.trans g3)
       rw [hn2] at m3 ⊢
       rw [hl2] at m1 m2
       clear hv2 hn2 hl2 r3 g3
       go_wp2_with fail
       refine (takeVar_in p s (a + l1 + n1 + l2) _ R3.out HS.out m2).mono ?_
       rintro e w4 ⟨g4, (⟨v3, hv3, rfl, r4⟩ | ⟨hv3, rfl⟩)⟩
       · have HR := Lib.hid (show idxRaw s.data.toList a = some (n2, varVal v3, a + l1 + n1 + l2 + v3.length) by
           have h1 := H1.out
           have h2 := H2.out
           have := ir_is (l := s.data.toList) (a := a) (g1 := v1) (g2 := v2) (g3 := v3) h1 (by rw [HN1.out, HL1.out, HLL.out]; omega) (by rw [HN1.out, HL1.out]; exact h2) (by rw [HN1.out, HL1.out, HL2.out]; exact hv3)
           rw [this, HN1.out, HL1.out, HL2.out, HN2.out])
         have G4 := Lib.hid (G3.out.trans g4)
         have R4 := Lib.hid (show RdAt w4 p s ((a + l1 + n1 + l2 + v3.length : Nat) : Int) by rw [Int.natCast_add]; exact r4)
         clear hv3 r4 g4
         go_wp2
         go_ret3
         exact ⟨G4.out, .inl ⟨_, _, _, HR.out, rfl, R4.out⟩⟩
       · have HR := Lib.hid (show idxRaw s.data.toList a = none from ir_no3 (g1 := v1) (g2 := v2) H1.out (by rw [HN1.out, HL1.out, HLL.out]; omega) (by rw [HN1.out, HL1.out]; exact H2.out) (by rw [HN1.out, HL1.out, HL2.out]; exact hv3))
         have G4 := Lib.hid (G3.out.trans g4)
         clear hv3 g4
         go_wp2
         go_ret3
         exact ⟨G4.out, .inr ⟨HR.out, _, _, rfl⟩⟩
     · have HR := Lib.hid (show idxRaw s.data.toList a = none from ir_no2 (g1 := v1) H1.out (by rw [HN1.out, HL1.out, HLL.out]; omega) (by rw [HN1.out, HL1.out]; exact hv2))
       have G3 := Lib.hid (G2.out.trans g3)
       clear hv2 g3
       go_wp2
       go_ret3
       exact ⟨G3.out, .inr ⟨HR.out, _, _, rfl⟩⟩
   · have HR := Lib.hid (show idxRaw s.data.toList a = none from ir_far (g1 := v1) H1.out (by rw [HN1.out, HL1.out, HLL.out]; omega))
     go_wp2_with fail
     refine (take_no p s ((a + l1 : Nat) : Int) n1 _ R1.out HS.out (by omega)).mono ?_
     rintro e w2 ⟨rfl, k, rfl⟩
     have G2 := Lib.hid (G1.out.trans (grown_drewN w1 k (some p)))
     go_wp2
     go_ret3
     exact ⟨G2.out, .inr ⟨HR.out, _, _, rfl⟩⟩
 · have HR := Lib.hid (ir_no1 hv1)
   have G1 := Lib.hid g1
   clear hv1 g1
   go_wp2
   go_ret3
   exact ⟨G1.out, .inr ⟨HR.out, _, _, rfl⟩⟩

def badV (name : ByteArray) (k : Nat) : Value := .iface 82 (.agg #[.string name, .int .i64 k])
def WrapRead (w : World) (p : Nat) (s : ByteArray) (at_ size : Nat) (e : Ending) (w' : World) : Prop :=
 w.grownBy w' (some p) ∧ ((∃ X : ByteArray, at_ + size ≤ s.size ∧ unwrapB ((s.data.toList.drop at_).take size) = (X.data.toList, 0) ∧ e = .returned (.tuple #[.string X, .nilIface]) ∧ RdT 115 w' p s ((at_ + size : Nat) : Int)) ∨
   ((s.size < at_ + size ∨ (unwrapB ((s.data.toList.drop at_).take size)).2 ≠ 0) ∧ ∃ name, e = .returned (.tuple #[.string ⟨#[]⟩, badV name 2])))
set_option maxHeartbeats 2000000 in
set_option maxRecDepth 100000 in
theorem readWrapped_at (p : Nat) (s name : ByteArray) (at_ size : Nat) (a : Int) (w : World) (h : RdT 115 w p s a) (hs : s.size ≤ 1048576) (h1 : at_ ≤ 4611686018427387903) (h2 : size ≤ 4611686018427387903) :
   Calls Tryz.prog 136 #[.pointer (some ⟨p, 0, none⟩), .string name, .int .i64 at_, .int .i64 size] w (WrapRead w p s at_ size) := by
 have HLL := Lib.hid (show s.data.toList.length = s.size by simp)
 have HS := Lib.hid (show s.size ≤ maxLen by unfold maxLen; omega)
 obtain ⟨c0, c1, f1⟩ := h.cells
 have R0 := Lib.hid (h.set at_)
 have G0 := Lib.hid (grown_set w p 1 (.int .i64 at_))
 clear h
 go_enter Tryz.func136, Tryz.ntmps136
 by_cases hf : at_ + size ≤ s.size
 · obtain ⟨X, hX⟩ : ∃ X, s.extract at_ (at_ + size) = X := ⟨_, rfl⟩
   have hXl : X.data.toList = (s.data.toList.drop at_).take size := by rw [← hX]; exact part_list s at_ size
   have hXs : X.size ≤ 1048576 := by rw [← hX, ByteArray.size_extract]; omega
   obtain ⟨u, hu⟩ : ∃ u, unwrapB X.data.toList = u := ⟨_, rfl⟩
   obtain ⟨ub, uk⟩ := u
   obtain ⟨A, hA, hAl⟩ := text_of ub
   have HUA := Lib.hid (show (A.data.toList, uk) = unwrapB X.data.toList by rw [hu, hA])
   have HU := Lib.hid (show unwrapB ((s.data.toList.drop at_).take size) = (A.data.toList, uk) by rw [← hXl, hu, hA])
   have HXX := Lib.hid hX
   clear hX hXl hu hA hAl
   go_wp2_with fail
   refine (take_yes p s at_ size _ R0.out HS.out hf).mono ?_
   rintro e w1 ⟨rfl, r1, g1⟩
   rw [HXX.out]
   have R1 := Lib.hid r1
   have G1 := Lib.hid (G0.out.trans g1)
   clear r1 g1
   go_wp2_with fail
   refine (implUnwrap X A uk hXs HUA.out _).mono ?_
   rintro e w2 ⟨rfl, b2⟩
   have R2 := Lib.hid (show RdT 115 w2 p s ((at_ + size : Nat) : Int) from (b2.block p R1.out.lt).trans R1.out)
   have G2 := Lib.hid (G1.out.trans (grown_under b2 (some p)))
   clear b2
   by_cases hk : uk = 0
   · subst hk
     go_wp2
     go_ret2
     exact ⟨G2.out, .inl ⟨A, hf, HU.out, rfl, R2.out⟩⟩
   · have hk' : ¬ (uk : Int) = 0 := by omega
     go_wp2
     go_ret2
     exact ⟨G2.out, .inr ⟨.inr (by rw [HU.out]; exact hk), _, rfl⟩⟩
 · obtain ⟨u, hu⟩ : ∃ u, unwrapB (ByteArray.mk #[]).data.toList = u := ⟨_, rfl⟩
   obtain ⟨ub, uk⟩ := u
   obtain ⟨A, hA, hAl⟩ := text_of ub
   have HUA := Lib.hid (show (A.data.toList, uk) = unwrapB (ByteArray.mk #[]).data.toList by rw [hu, hA])
   clear hu hA hAl
   go_wp2_with fail
   refine (take_no p s (at_ : Int) size _ R0.out HS.out (by omega)).mono ?_
   rintro e w1 ⟨rfl, k, rfl⟩
   have G1 := Lib.hid (G0.out.trans (grown_drewN _ k (some p)))
   obtain ⟨w2, hw2⟩ : ∃ W, (w.setCell ⟨p, 1, none⟩ (.int .i64 at_)).drewN k = W := ⟨_, rfl⟩
   rw [hw2] at G1 ⊢
   clear hw2
   go_wp2_with fail
   refine (implUnwrap ⟨#[]⟩ A uk (by show 0 ≤ 1048576; omega) HUA.out _).mono ?_
   rintro e w3 ⟨rfl, b3⟩
   have G3 := Lib.hid (G1.out.trans (grown_under b3 (some p)))
   clear b3
   go_wp2
   go_ret2
   exact ⟨G3.out, .inr ⟨.inl (by omega), _, rfl⟩⟩
end Go.Proofs.YtkomnnijnggbpaaGreatDoor
