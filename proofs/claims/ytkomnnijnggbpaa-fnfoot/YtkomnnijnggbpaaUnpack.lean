/- Contracts of the program's unpack and Expand. -/
import Derived.Test.YtkomnnijnggbpaaTakeToken
import Derived.Test.YtkomnnijnggbpaaSpecExpand
import Derived.Test.YtkomnnijnggbpaaImplCompress
namespace Go.Proofs.Ytkomnnijnggbpaa
open Go.RowKit
set_option linter.unusedVariables false

theorem BRow.other {w0 w w' : World} {v : Value} {xs : List UInt8} (t : BRow w0 w v xs) {C : Nat} (hC : some C ≠ v.ownBlock) (hw : w0.heap.size ≤ C) (hg : w.grownBy w' (some C)) : BRow w0 w' v xs := by
 refine ⟨?_, t.below.grown hg t.below.size (fun k hk => by cases hk; exact hw)⟩
 refine ⟨t.row.1, ?_⟩
 rcases t.row.2 with h2 | ⟨g, cap, cur, h1, h2, h3, r⟩
 · exact .inl h2
 · refine .inr ⟨g, cap, cur, h1, h2, (hg.block g ((Array.getElem?_eq_some_iff.1 h3).1) ?_).trans h3, r⟩
   intro e
   apply hC
   rw [h1]
   exact e.symm
theorem BRow.noRd {w0 w : World} {v : Value} {xs : List UInt8} (t : BRow w0 w v xs) {p : Nat} {s : ByteArray} {a : Int} (h : RdAt w p s a) : some p ≠ v.ownBlock := t.apart (U := 63) h (by decide)

structure UnAt (w wr : World) (s : ByteArray) (a : Nat) (v : Value) (out : List UInt8) : Prop where
 rd : RdAt wr w.heap.size s a
 row : BRow w wr v out
 left : TokLeft s.data.toList a out
theorem un_new (w : World) (s : ByteArray) : UnAt w (w.alloc (.cells #[.string s, .int .i64 0] 63)) s 0 (.slice none 0 0) [] :=
 ⟨rd_new w s 0, (brow_nil w).alloc _, left_new _⟩
theorem UnAt.drewN {w wr : World} {s : ByteArray} {a : Nat} {v : Value} {out : List UInt8} (t : UnAt w wr s a v out) (n : Nat) : UnAt w (wr.drewN n) s a v out := ⟨t.rd.drewN n, t.row.drewN n, t.left⟩

def KeptUn (w wi : World) (r : Nat) (s : ByteArray) (b : Nat) (Y : ByteArray) (y : Tok) : Prop :=
 wi.heap[r]? = some (.cells #[.string Y, .int .i64 y.len, .int .i64 y.far] 103 (0, 0)) ∧ RdAt wi w.heap.size s b
theorem kept_un {w w2 w3 : World} {v : Value} {out : List UInt8} {s Y : ByteArray} {b : Nat} {y : Tok} (t : BRow w w2 v out) (hr : RdAt w2 w.heap.size s b) (hg : (w2.alloc (.cells #[.string Y, .int .i64 y.len, .int .i64 y.far] 103)).grownBy w3 v.ownBlock) : KeptUn w w3 w2.heap.size s b Y y := by
 have h0 := heap_alloc_new w2 (.cells #[.string Y, .int .i64 y.len, .int .i64 y.far] 103)
 have hr' := hr.alloc (.cells #[.string Y, .int .i64 y.len, .int .i64 y.far] 103)
 exact ⟨(hg.block _ (lt_of_block h0) ((t.alloc _).apart h0 (by decide))).trans h0, hr'.keep (hg.block _ hr'.lt ((t.alloc _).noRd hr'))⟩
theorem KeptUn.more {w wi w4 : World} {r : Nat} {v : Value} {X : List UInt8} {s Y : ByteArray} {b : Nat} {y : Tok} {o : Obj} (h : KeptUn w wi r s b Y y) (t : BRow w wi v X) (hg : (wi.alloc o).grownBy w4 v.ownBlock) : KeptUn w w4 r s b Y y := by
 have h0 := keep_block h.1 o
 have hr' := h.2.alloc o
 exact ⟨(hg.block _ (lt_of_block h0) ((t.alloc _).apart h0 (by decide))).trans h0, hr'.keep (hg.block _ hr'.lt ((t.alloc _).noRd hr'))⟩

def UnOut (w : World) (l : List UInt8) (e : Ending) (w' : World) : Prop :=
 ∃ (T : ByteArray) (ok : Bool), e = .returned (.tuple #[.string T, .bool ok]) ∧ Below w.heap.size w w' ∧ (ok = false → ∀ x, ¬ Packs l x) ∧ (ok = true → T.size ≤ 2000 ∧ ∀ x, Packs l x → T.data.toList = x)

set_option maxHeartbeats 4000000 in
set_option maxRecDepth 100000 in
theorem implUnpack (s : ByteArray) (w : World) (hs : s.size ≤ 100000000) :
   Calls Try.prog 67 #[.string s] w (UnOut w s.data.toList) := by
 have hll : s.data.toList.length = s.size := by simp
 have HLL := Lib.hid hll
 have U0 := Lib.hid (un_new w s)
 have HS := Lib.hid (show s.size ≤ maxLen by unfold maxLen; omega)
 clear hll
 go_enter Try.func67, Try.ntmps67
 go_wp2_with fail
 go_loopw [4] (fun v wr => ∃ (a : Nat) (out : List UInt8), a ≤ s.size ∧ out.length ≤ 2000 ∧ UnAt w wr s a v out) (fun v wr => match wr.cell? ⟨w.heap.size, 1, none⟩ with | some (.int _ a) => s.size - a.toNat | _ => 0)
 case atStart => exact ⟨0, [], by omega, by simp, U0.out⟩
 case round =>
   obtain ⟨a, out, ha, hol, t⟩ := hrel
   have TT := Lib.hid t
   have HCA := Lib.hid t.rd.cells.2.1
   clear U0 t
   by_cases hlt : a < s.size
   · go_wp2_with fail
     refine (has_yes _ s a 1 _ TT.out.rd HS.out (by omega)).mono ?_
     rintro e w1 ⟨rfl, m, rfl⟩
     have T1 := Lib.hid (TT.out.drewN m)
     clear TT
     generalize wr.drewN m = w1 at *
     go_wp2_with fail
     refine (takeToken _ s a _ T1.out.rd (by omega) hlt).mono ?_
     have hlt' : a < s.data.toList.length := by rw [HLL.out]; exact hlt
     have HLT := Lib.hid hlt'
     clear hlt'
     cases hrt : readTok s.data.toList a with
     | none =>
       rintro e w2 ⟨rfl, hg2⟩
       have HNO := Lib.hid (left_none T1.out.left HLT.out hrt)
       have R2 := Lib.hid (T1.out.row.other (T1.out.row.noRd T1.out.rd) (Nat.le_refl _) hg2)
       clear hrt hg2
       go_wp2_with fail
       go_ret2
       exact ⟨_, _, rfl, (R2.out.below.alloc R2.out.below.size _), fun _ => HNO.out, fun h => by cases h⟩
     | some yb =>
       obtain ⟨y, b⟩ := yb
       rintro e w2 ⟨rfl, hr2, hg2⟩
       have R2 := Lib.hid (T1.out.row.other (T1.out.row.noRd T1.out.rd) (Nat.le_refl _) hg2)
       have RD2 := Lib.hid hr2
       have HRT := Lib.hid hrt
       have hok := readTok_ok hrt
       rw [HLL.out] at hok
       obtain ⟨hyok, hab, hbs⟩ := hok
       have hlen : y.len ≤ 67 := by rcases hyok with h | h <;> omega
       have htl : y.text.length ≤ 127 := by
         rcases hyok with h | h
         · exact h.2.2.2
         · rw [h.1]; simp
       have hfar : y.far ≤ 255 := by rcases hyok with h | h <;> omega
       have HFP := Lib.hid (show 0 < y.len → 1 ≤ y.far by rcases hyok with h | h <;> omega)
       clear hrt hr2 hg2 hyok
       obtain ⟨Y, hY⟩ : ∃ Y : ByteArray, (⟨y.text.toArray⟩ : ByteArray) = Y := ⟨_, rfl⟩
       rw [hY]
       have HYL := Lib.hid (show Y.data.toList = y.text by rw [← hY])
       have hYs : Y.size ≤ 127 := by rw [← hY]; simpa [ByteArray.size] using htl
       clear hY htl
       by_cases hfo : out.length < y.far
       · have HNO := Lib.hid (left_far T1.out.left HLT.out HRT.out hfo)
         obtain ⟨aa, cc, rfl, _⟩ := R2.out.form
         have d1 : (out.length : Int) < (y.far : Int) := by omega
         go_wp2_with fail
         go_ret2
         exact ⟨_, _, rfl, (R2.out.below.alloc R2.out.below.size _), fun _ => HNO.out, fun h => by cases h⟩
       · have d1 : ¬ (out.length : Int) < (y.far : Int) := by omega
         obtain ⟨aa, cc, rfl, _⟩ := R2.out.form
         have HNX := Lib.hid (left_next T1.out.left HLT.out HRT.out)
         go_wp2_with (at_builtin; refine wpList_plain rfl (fun K hK => ?_); refine op_pushS Y _ _ rfl rfl rfl (R2.out.alloc _) (by omega) ?_; intro v3 w3 t3 hg3; refine hK _ _ ?_; clear hK K; have K3 := Lib.hid (kept_un R2.out RD2.out hg3); have hc1 := (tok_block K3.out.1).2.1; have T3 := Lib.hid t3; clear t3 hg3)
         clear hc1
         go_loopw [4, 30] (fun v kk wi => ∃ k : Nat, k ≤ y.len ∧ kk = .int .i64 k ∧ BRow w wi v (copyOut (out ++ y.text) y.far k) ∧ KeptUn w wi w2.heap.size s b Y y) (fun _ kk _ => y.len - (intOf kk).toNat)
         case atStart => exact ⟨0, by omega, rfl, by have h := T3.out; rw [HYL.out] at h; exact h, K3.out⟩
         case round =>
           obtain ⟨k, hk, rfl, tk, kk⟩ := hrel
           have KK := Lib.hid kk
           have hc2 := (tok_block kk.1).2.2
           have hxl := copyOut_len (out ++ y.text) y.far k
           have hYl : y.text.length = Y.size := by rw [← HYL.out]; simp
           rw [List.length_append] at hxl
           obtain ⟨X, hX⟩ : ∃ X, copyOut (out ++ y.text) y.far k = X := ⟨_, rfl⟩
           have hX1 : copyOut (out ++ y.text) y.far (k + 1) = X ++ [X.getD (X.length - y.far) 0] := by rw [copyOut, hX]
           rw [hX] at tk hxl
           have HX := Lib.hid hX
           have HX1 := Lib.hid hX1
           have TX := Lib.hid tk
           obtain ⟨a', c', rfl, hcell⟩ := tk.form
           have HXL := Lib.hid hxl
           have x2 : X.length ≤ 2000 + 194 := by omega
           have x1 : y.far ≤ X.length := by omega
           clear hX hX1 tk kk hxl hYl
           by_cases hkl : k < y.len
           · have k1 : (k : Int) < (y.len : Int) := by omega
             have hf1 := HFP.out (by omega)
             obtain ⟨g, rfl, hc, hcell⟩ := hcell (X.length - y.far) (by omega)
             obtain ⟨z, hz⟩ : ∃ z, X.getD (X.length - y.far) 0 = z := ⟨_, rfl⟩
             rw [hz] at hcell HX1
             clear hz
             unfold u8v at hcell
             have x3 : ((X.length : Int) - (y.far : Int)).toNat = X.length - y.far := by omega
             have x4 : (X.length : Int) - (y.far : Int) < (X.length : Int) := by omega
             have x5 : (y.far : Int) ≤ (X.length : Int) := by omega
             have x6 : IntKind.i64.wrap ((X.length : Int) - (y.far : Int)) = (X.length : Int) - (y.far : Int) := IntWalk.i64_in _ (by omega)
             go_wp2_with (at_builtin; refine wpList_plain rfl (fun K hK => ?_); refine op_pushL [z] _ _ rfl rfl rfl (one_byte_at _ _ (by first | rfl | simp) rfl) (TX.out.alloc _) (by simp only [List.length_singleton]; omega) ?_; intro v4 w4 t4 hg4; refine hK _ _ ?_; clear hK K; have K4 := Lib.hid (KK.out.more TX.out hg4); have T4 := Lib.hid t4; clear t4 hg4)
             go_roundw
             case rel => exact ⟨k + 1, by omega, by go_num, by rw [HX1.out]; exact T4.out, K4.out⟩
             case measure => simp [intOf]; omega
           · obtain rfl : k = y.len := by omega
             have HGR := Lib.hid (show grow out y = X from HX.out)
             rw [HGR.out] at HNX
             have HCB := Lib.hid KK.out.2.cells.2.1
             clear hcell hc2
             by_cases h2 : 2000 < X.length
             · have HNO := Lib.hid (left_long HNX.out h2)
               have h2' : (2000 : Int) < (X.length : Int) := by omega
               go_wp2_with fail
               go_ret2
               exact ⟨_, _, rfl, TX.out.below, fun _ => HNO.out, fun h => by cases h⟩
             · have h2' : ¬ (2000 : Int) < (X.length : Int) := by omega
               go_wp2_with fail
               go_roundw
               case rel => exact ⟨b, X, hbs, by omega, ⟨KK.out.2, TX.out, HNX.out⟩⟩
               case measure => simp only [HCB.out, HCA.out]; omega
   · obtain rfl : a = s.size := by omega
     obtain ⟨n, c2, a2, hv, hcv⟩ := brow_conv (TT.out.row)
     subst hv
     obtain ⟨O, hO⟩ : ∃ O : ByteArray, (⟨out.toArray⟩ : ByteArray) = O := ⟨_, rfl⟩
     have HOD := Lib.hid (show O.data.toList = out by rw [← hO])
     have hOs : O.size ≤ 2000 := by rw [← hO]; simpa [ByteArray.size] using hol
     have HEN := Lib.hid (left_end TT.out.left (by rw [HLL.out]; omega))
     clear hcv
     go_wp2_with fail
     refine (has_no _ s s.size 1 _ TT.out.rd HS.out (by omega)).mono ?_
     rintro e w1 ⟨rfl, m, rfl⟩
     have T1 := Lib.hid (TT.out.drewN m)
     obtain ⟨n', c2', a2', hv, hcv⟩ := brow_conv T1.out.row
     cases hv
     rw [hO] at hcv
     clear TT hO
     go_wp2_with fail
     go_ret2
     exact ⟨O, true, rfl, T1.out.row.below, (fun h => by cases h), fun _ => ⟨hOs, fun x hx => by rw [HOD.out]; exact HEN.out x hx⟩⟩

set_option maxHeartbeats 2000000 in
set_option maxRecDepth 100000 in
theorem implExpand (s : ByteArray) (w : World) (hs : s.size ≤ 100000000) :
   Calls Try.prog 40 #[.string s] w (ExpOut w s.data.toList) := by
 go_enter Try.func40, Try.ntmps40
 go_wp2_with fail
 refine (implUnpack s _ hs).mono ?_
 rintro e w1 ⟨T, ok, rfl, b1, hno, hyes⟩
 have B1 := Lib.hid b1
 cases ok with
 | false =>
   have HN := Lib.hid (expand_not (hno rfl))
   clear b1 hno hyes
   go_wp2_with fail
   go_ret2
   exact ⟨ret_exp (a := ⟨#[]⟩) (by rw [HN.out.1]) HN.out.2.symm, B1.out⟩
 | true =>
   have HY := Lib.hid (hyes rfl)
   clear b1 hno hyes
   go_wp2_with fail
   refine (implCompress T _).mono ?_
   obtain ⟨C, hC⟩ : ∃ C : ByteArray, (⟨(compress T.data.toList).toArray⟩ : ByteArray) = C := ⟨_, rfl⟩
   have HCD := Lib.hid (show C.data.toList = compress T.data.toList by rw [← hC])
   unfold PackOut
   rw [hC]
   rintro e w2 ⟨rfl, b2⟩
   have B2 := Lib.hid (B1.out.trans (b2.mono B1.out.size))
   clear b2 hC
   by_cases hq : C = s
   · subst hq
     have hq1 := ne_false C
     have HP := Lib.hid (expand_yes (l := C.data.toList) (x := T.data.toList) ⟨by simpa using HY.out.1, HCD.out.symm⟩)
     go_wp2_with fail
     go_ret2
     exact ⟨ret_exp (bytes_ext (by rw [HP.out.1])) HP.out.2.symm, B2.out⟩
   · have hq1 : (!C.toList == s.toList) = true := ne_true (fun h => hq (bytes_ext h))
     have HN := Lib.hid (expand_not (l := s.data.toList) (fun x hx => hq (bytes_ext (by rw [HCD.out, HY.out.2 x hx, hx.2]))))
     go_wp2_with fail
     go_ret2
     exact ⟨ret_exp (a := ⟨#[]⟩) (by rw [HN.out.1]) HN.out.2.symm, B2.out⟩
end Go.Proofs.Ytkomnnijnggbpaa
