/- The program's text that a record needs behind so many bytes of a log. -/
import Derived.Test.YtjcgbpjgoacdjaaPartsOfI
import Derived.Test.YtjcgbpjgoacdjaaShelf
import Derived.Test.YtjcgbpjgoacdjaaZ0
namespace Go.Proofs.Ytjcgbpjgoacdjaa
open Go.RowKit Go.Shelf
set_option linter.unusedVariables false
attribute [local go_sem] Oper.semAt_some

theorem repeat_zero (n : Nat) : Lib.repeatL [0] n = List.replicate n 0 := by
 induction n with
 | zero => rfl
 | succ n ih => rw [Lib.repeatL, ih]; rfl
theorem pads_at (n : Nat) (hn : n ≤ 64) (w : World) : Calls Try.prog 64 #[.string ⟨#[0]⟩, .int .i64 n] w fun e w' => e = .returned (.string ⟨(List.replicate n (0 : UInt8)).toArray⟩) ∧ Below w.heap.size w w' := by
 refine (Try.strings_Repeat ⟨#[0]⟩ n w (by omega) (by show 1 * n ≤ _; omega)).mono ?_
 rintro e w' ⟨rfl, hb⟩
 exact ⟨by rw [show (⟨#[0]⟩ : ByteArray).data.toList = [0] from rfl, repeat_zero], hb⟩
theorem rnd_calls {l n : Nat} {P : Program} {f : FuncId} {args : Array Value} {w : World} {R : Ending → World → Prop} (h : Calls P f args w R) : CallsIn (Fence.wide.inRound l) n P f args w R := (callsIn_wide.2 h : CallsIn Fence.wide n P f args w R)

def LgText (pad : Nat) (pre : List Prt) : ByteArray := ⟨(List.replicate pad (0 : UInt8) ++ fragsOf (prts pre)).toArray⟩
structure Lg (w : World) (Bt pad : Nat) (pre : List Prt) (W : World) : Prop where
 box : Boxed W Bt 9 (.string (LgText pad pre))
 lt : w.heap.size ≤ Bt
 below : Below w.heap.size w W
 size : Bt + 3 ≤ W.heap.size
theorem keeps_below {W W' : World} (h : Below W.heap.size W W') : KeepsOthers W W' := ⟨h.size, fun k o hk _ => (h.block k (Array.getElem?_eq_some_iff.1 hk).1).trans hk⟩
theorem Lg.grown {w : World} {Bt pad : Nat} {pre : List Prt} {b : Nat} {X Y : World} {row : Option Nat} (h : Lg w Bt pad pre X) (hb : Bt < b) (hg : X.grownBy Y row) (hr : ∀ r, row = some r → b ≤ r) : Lg w Bt pad pre Y :=
 ⟨h.box.kept hg (fun e => by have := hr _ e.symm; omega), h.lt, h.below.grown hg h.below.size (fun r e => by have := hr r e; have := h.lt; omega), Nat.le_trans h.size hg.size⟩
theorem lg_len (pad : Nat) (pre : List Prt) : (LgText pad pre).size ≤ pad + 64 * pre.length := by
 have h : (LgText pad pre).size = (List.replicate pad (0 : UInt8) ++ fragsOf (prts pre)).length := by simp [LgText, ByteArray.size]
 rw [h, List.length_append, List.length_replicate]
 have := frags_len pre
 omega
theorem lg_snoc (pad : Nat) (pre : List Prt) (x : Prt) : LgText pad pre ++ ⟨(fragB x.kind x.text.data.toList).toArray⟩ = LgText pad (pre ++ [x]) := by
 apply bytes_ext
 simp [LgText, prts_snoc, frags_snoc]

theorem pads_text (n : Nat) (hn : n ≤ 64) (w : World) : Calls Try.prog 64 #[.string ⟨#[0]⟩, .int .i64 n] w fun e w' => e = .returned (.string (LgText n [])) ∧ Below w.heap.size w w' := by
 refine (pads_at n hn w).mono ?_
 rintro e w' ⟨rfl, hb⟩
 exact ⟨by simp [LgText, prts, fragsOf], hb⟩
set_option maxRecDepth 100000 in
set_option maxHeartbeats 2000000 in
theorem logged_in (r : ByteArray) (n : Nat) (hr : r.size ≤ 300) (hn : n ≤ 2000000000000000) (w : World) :
   CallsIn Fence.wide 5 Try.prog 47 #[.string r, .int .i64 n] w (TextIs w (putRec n true r.data.toList)) := by
 obtain ⟨pd, hpd⟩ : ∃ x, padAt n = x := ⟨_, rfl⟩
 have hp6 : pd ≤ 6 := by rw [← hpd]; exact pad_le n
 have HPR := Lib.hid (pad_room n)
 rw [hpd] at HPR
 have HRM := Lib.hid (show ∀ ys, prts ys = partsB (roomAt n) true r.data.toList → LgText pd ys = ⟨(putRec n true r.data.toList).toArray⟩ from fun ys h => by
   unfold LgText
   rw [putRec_parts, h, hpd])
 have HPD := Lib.hid hpd
 have hrr := room_le n
 obtain ⟨rm, hrm⟩ : ∃ x, roomAt n = x := ⟨_, rfl⟩
 rw [hrm] at HPR HRM hrr
 clear hpd hrm
 refine callsIn_of_wp_marks Try.func47 rfl trivial ?_ rfl
 simp only [Try.ntmps47, List.size_toArray, List.length_cons, List.length_nil, Nat.reduceAdd, Nat.reduceSub, Array.replicate_succ, Array.replicate_zero, List.push_toArray, List.append_toArray, List.nil_append, List.cons_append]
 gi_wp2_with fail
 refine ⟨trivial, ?_⟩
 refine (callsIn_wide.2 (gapAt_at n (by omega) _)).mono ?_
 rw [HPD.out]
 rintro e w0 ⟨rfl, hw0⟩
 rw [hw0]
 clear hw0 w0
 gi_wp2_with fail
 refine ⟨trivial, ?_⟩
 refine (callsIn_wide.2 (pads_text pd (by omega) _)).mono ?_
 rintro e w1 ⟨rfl, b1⟩
 have B1 := Lib.hid b1
 clear b1
 gi_wp2_with fail
 refine ⟨trivial, ?_⟩
 refine (partsOf_at _ _ _ _).mono ?_
 rintro e w' ⟨rfl, rfl⟩
 gi_wp2_with fail
 try simp only [World.size_alloc]
 have bT := Boxed.new w1 9 (.string (LgText pd []))
 have bR := Boxed.new (w1.alloc (.cells #[.string (LgText pd [])] 9)) 9 (.string r)
 have bN := Boxed.new ((w1.alloc (.cells #[.string (LgText pd [])] 9)).alloc (.cells #[.string r] 9)) 3 (.int .i64 ((n : Int) + (pd : Int)))
 simp only [World.size_alloc] at bT bR bN
 have hb4 : Below w.heap.size w (((w1.alloc (.cells #[.string (LgText pd [])] 9)).alloc (.cells #[.string r] 9)).alloc (.cells #[.int .i64 ((n : Int) + (pd : Int))] 3)) := ((B1.out.alloc B1.out.size _).alloc (by have := B1.out.size; simp; omega) _).alloc (by have := B1.out.size; simp; omega) _
 have L0 := Lib.hid (show Lg w w1.heap.size pd [] (((w1.alloc (.cells #[.string (LgText pd [])] 9)).alloc (.cells #[.string r] 9)).alloc (.cells #[.int .i64 ((n : Int) + (pd : Int))] 3)) from ⟨(bT.alloc _).alloc _, B1.out.size, hb4, by simp⟩)
 have XX := Lib.hid (And.intro (bR.alloc (.cells #[.int .i64 ((n : Int) + (pd : Int))] 3)) bN)
 have hsz : (((w1.alloc (.cells #[.string (LgText pd [])] 9)).alloc (.cells #[.string r] 9)).alloc (.cells #[.int .i64 ((n : Int) + (pd : Int))] 3)).heap.size = w1.heap.size + 3 := by simp
 clear bT bR bN hb4
 obtain ⟨w4, hw4⟩ : ∃ W, (((w1.alloc (.cells #[.string (LgText pd [])] 9)).alloc (.cells #[.string r] 9)).alloc (.cells #[.int .i64 ((n : Int) + (pd : Int))] 3)) = W := ⟨_, rfl⟩
 rw [hw4] at L0 XX hsz ⊢
 clear hw4
 have XN := Lib.hid (show Boxed w4 (w1.heap.size + 1 + 1) 3 (.int .i64 ((n + pd : Nat) : Int)) from XX.out.2)
 refine wpIn_rangeFunc_ownG (α := Prt) rfl (by decide) (gf := 75) (lb := #[.pointer (some ⟨w1.heap.size + 1, 0, none⟩), .pointer (some ⟨w1.heap.size + 1 + 1, 0, none⟩)]) rfl trivial (enters_of Try.func75 (by kernel_rfl) rfl)
   (parts_stops 4 (w1.heap.size + 1) (w1.heap.size + 1 + 1) r (n + pd) rm (by omega) HPR.out hr w4 XX.out.1 XN.out) KeepBx.trans (keepBx_put (by omega) (by omega)) (Below.refl _ _) (fun _ => rfl)
   (fun pre X => Lg w w1.heap.size pd pre X) (fun _ _ _ => False) (fun pre X Y row h hg hr => h.grown (b := w4.heap.size) (by omega) hg (fun r e => (hr r e).1)) (fun _ _ _ _ _ hs _ _ => hs)
   L0.out
   (fun x => { tmps := #[.string r, .int .i64 n, undef, undef, .string ⟨#[]⟩, .int .i64 pd, .pointer (some ⟨w1.heap.size, 0, none⟩), .int .i64 x.kind, .string x.text, .int .i64 n, .int .i64 pd, .int .i64 pd, .string (LgText pd []), .string r, .int .i64 n, .int .i64 pd, .int .i64 ((n : Int) + (pd : Int)),
     .func (.func 75) #[] #[.pointer (some ⟨w1.heap.size + 1, 0, none⟩), .pointer (some ⟨w1.heap.size + 1 + 1, 0, none⟩)], .int .i64 x.kind, .string x.text, undef, undef, undef, undef, undef, undef], defers := [] }) ?assign ?body ?done ?stop
 case assign =>
   intro l x W K hK
   gi_wp2
   exact hK
 case body =>
   rintro l pre x X hJ hlt
   have HX := Lib.hid hJ
   have cb := hJ.box.cell
   have fb := hJ.box.frozen
   have HBT := Lib.hid ((Array.getElem?_eq_some_iff.1 hJ.box).1)
   have hT := lg_len pd pre
   have hok := x.ok
   have hxl : x.text.data.toList.length = x.text.size := by simp
   obtain ⟨F, hF⟩ : ∃ F : ByteArray, ⟨(fragB x.kind x.text.data.toList).toArray⟩ = F := ⟨_, rfl⟩
   have hFs : F.size = x.text.size + 7 := by
     have h : F.size = (fragB x.kind x.text.data.toList).length := by rw [← hF]; simp [ByteArray.size]
     rw [h, frag_len, hxl]
   have HC := Lib.hid (show ∀ W, Calls Try.prog 33 #[.int .i64 x.kind, .string x.text] W fun e w' => e = .returned (.string F) ∧ Below W.heap.size W w' from fun W => (implFragment x.kind x.text (by omega) (by unfold maxLen; omega) W).mono fun e w' h => by
     rw [fragment_yes hok.1 hok.2.1 (by omega)] at h
     rw [← hF]
     exact h)
   have HLF := Lib.hid (show LgText pd pre ++ F = LgText pd (pre ++ [x]) by rw [← hF]; exact lg_snoc pd pre x)
   obtain ⟨L, hL⟩ : ∃ L, LgText pd pre = L := ⟨_, rfl⟩
   rw [hL] at cb hT HLF
   have HBX := Lib.hid (show Boxed X w1.heap.size 9 (.string L) by rw [← hL]; exact HX.out.box)
   have q1 : ¬ 9223372036854775807 < L.size + F.size := by omega
   have hmix : Try.prog.follows .mixedOrders = true := by kernel_rfl
   have HLL := Lib.hid hL
   clear hJ hF hL hxl
   obtain ⟨k, T, hkt⟩ := x
   simp only at hFs HC hok ⊢
   refine wpIn_mono (Q := fun e a Y => e = .normal ∧ ∃ W1, Below X.heap.size X W1 ∧ Y = W1.setCell ⟨w1.heap.size, 0, none⟩ (.string (L ++ F))) ?_ ?_
   · gi_wp2_with fail
     gi_region_with_o (refine ⟨trivial, (rnd_calls (HC.out _)).mono ?_⟩; rintro e' w' ⟨rfl, b'⟩; have B' := Lib.hid b'; have bx' : Boxed w' w1.heap.size 9 (.string L) := (b'.block _ HBT.out).trans HBX.out; have cb' := bx'.cell; have fb' := bx'.frozen; clear bx' b')
     all_goals exact ⟨rfl, _, by first | exact B'.out | exact (below_draws 1).trans B'.out, rfl⟩
   · rintro e a Y ⟨rfl, W1, hb1, rfl⟩
     have hXs := HBT.out
     have hne : ∀ k, k < X.heap.size → k ≠ w1.heap.size → (W1.setCell ⟨w1.heap.size, 0, none⟩ (.string (L ++ F))).heap[k]? = X.heap[k]? := fun k hk hk2 => (Below.heap_setCell _ _ _ _ hk2).trans (hb1.block k hk)
     have B1' : Boxed W1 w1.heap.size 9 (.string L) := (hb1.block _ hXs).trans HBX.out
     refine ⟨((keeps_below hb1).trans (KeepsOthers.setCell _ _ _)).from _, ⟨?_, ?_⟩, ?_⟩
     · exact hne _ (by have := HX.out.size; omega) (by omega)
     · exact hne _ (by have := HX.out.size; omega) (by omega)
     · refine ⟨?_, HX.out.lt, (HX.out.below.trans (hb1.mono HX.out.below.size)).setCell (p := ⟨w1.heap.size, 0, none⟩) HX.out.lt _, by have h1 := HX.out.size; have h2 := hb1.size; simp; omega⟩
       rw [← HLF.out]
       exact B1'.set _
 case done =>
   rintro D ys W hD hys hJ hK
   have HJ := Lib.hid hJ
   have cb := hJ.box.cell
   have HE := Lib.hid (HRM.out ys hys)
   have hwb := hJ.below.size
   clear hJ hys
   gi_wp2
   refine ⟨by simp, .inl ⟨_, _, rfl, run_takeDeferred hK, ?_⟩⟩
   refine ⟨_, results_tmp rfl _ _ _, ?_⟩
   exact ⟨by rw [← HE.out]; rfl, HJ.out.below.trans (belowK_b (w := w) (Nat.le_refl _) _ D _ _ (by have := B1.out.size; omega) hK rfl rfl)⟩
 case stop =>
   rintro D c pre W _ _ h _
   exact h.elim
theorem logged_at (r : ByteArray) (n : Nat) (hr : r.size ≤ 300) (hn : n ≤ 2000000000000000) (w : World) :
   Calls Try.prog 47 #[.string r, .int .i64 n] w (TextIs w (putRec n true r.data.toList)) := callsIn_wide.1 (logged_in r n hr hn w)
end Go.Proofs.Ytjcgbpjgoacdjaa
/- The program's Append and PutLog. -/
namespace Go.Proofs.Ytjcgbpjgoacdjaa
open Go.RowKit
set_option linter.unusedVariables false

theorem rec_tight (n : Nat) (first : Bool) (r : List UInt8) : (n % 64 = 0 → 57 * (putRec n first r).length ≤ 64 * r.length + 399) ∧ 57 * (putRec n first r).length ≤ 64 * r.length + 1140 := by
 induction n, first, r using putRec.induct with
 | case1 n first r h =>
   have hp := pad_le n
   rw [putRec_fits h, List.length_append, List.length_replicate, frag_len]
   refine ⟨fun h0 => ?_, by omega⟩
   rw [(room_zero h0).1]
   omega
 | case2 n first r h ih =>
   have hp := pad_le n
   have hr := room_le n
   have h1 := ih.1 (piece_end n)
   rw [List.length_drop] at h1
   rw [putRec_more h, List.length_append, List.length_replicate, List.length_append, frag_len, List.length_take]
   refine ⟨fun h0 => ?_, by omega⟩
   rw [(room_zero h0).1, (room_zero h0).2] at *
   omega
theorem rec_len {n : Nat} {first : Bool} {r : List UInt8} (h : r.length ≤ 300) : (putRec n first r).length ≤ 356 := by
 have := (rec_tight n first r).2
 omega
set_option maxHeartbeats 1000000 in
theorem implAppend (l r : ByteArray) (hl : l.size ≤ 1000000000000000) (hr : r.size ≤ maxLen) (w : World) :
   Calls Try.prog 27 #[.string l, .string r] w (TextIs w (appendB l.data.toList r.data.toList)) := by
 have hsr : r.data.toList.length = r.size := by simp
 have hsl : l.data.toList.length = l.size := by simp
 by_cases h300 : r.size ≤ 300
 · have hn3 : ¬ (300 : Int) < (r.size : Int) := by omega
   have HA := Lib.hid (show appendB l.data.toList r.data.toList = l.data.toList ++ putRec l.size true r.data.toList by rw [appendB, if_pos (by omega), hsl])
   have HLN := Lib.hid (rec_len (n := l.size) (first := true) (r := r.data.toList) (by omega))
   clear hsr hsl
   go_enter Try.func27, Try.ntmps27
   go_wp2_with fail
   refine (logged_at r l.size h300 (by omega) _).mono ?_
   intro e w2 h
   obtain ⟨T, hT, hTs, rfl, b2⟩ := h.text
   have hTl : T.size ≤ 356 := by rw [hTs]; exact HLN.out
   have q1 : ¬ 9223372036854775807 < l.size + T.size := by omega
   have HT := Lib.hid (show l ++ T = ⟨(appendB l.data.toList r.data.toList).toArray⟩ from bytes_ext (by rw [HA.out, ByteArray.data_append, Array.toList_append, hT]))
   have B2 := Lib.hid b2
   clear h hT hTs b2
   go_wp2
   go_ret
   exact ⟨by rw [← HT.out]; rfl, B2.out⟩
 · have hn3 : (300 : Int) < (r.size : Int) := by omega
   have HA := Lib.hid (show appendB l.data.toList r.data.toList = l.data.toList by rw [appendB, if_neg (by omega)])
   clear hsr hsl
   go_enter Try.func27, Try.ntmps27
   go_wp2
   go_ret
   exact ⟨by rw [HA.out]; rfl, Below.refl _ _⟩
theorem brow_either {w0 w : World} {v : Value} {xs : List UInt8} (h : BRow w0 w v xs) : (v = .slice none 0 0 ∧ xs = []) ∨ ∃ g c, v = .slice (some ⟨g, 0, none⟩) xs.length c := by
 rcases h.row.2 with ⟨h0, hn⟩ | ⟨g, cap, cur, h1, _⟩
 · exact .inl ⟨h0, List.length_eq_zero_iff.1 hn⟩
 · exact .inr ⟨g, cap, h1⟩
theorem brow_len {w0 w : World} {v : Value} {xs : List UInt8} (h : BRow w0 w v xs) : ∃ a c, v = .slice a xs.length c := by
 rcases brow_either h with ⟨rfl, rfl⟩ | ⟨g, c, rfl⟩
 · exact ⟨_, _, rfl⟩
 · exact ⟨_, _, rfl⟩
theorem brow_under {w0 w w' : World} {v : Value} {xs : List UInt8} (h : BRow w0 w v xs) (hb : Below w.heap.size w w') : BRow w0 w' v xs := by
 refine ⟨World.ownsRow.kept h.row (grown_of_below hb) ?_, h.below.trans (hb.mono h.below.size)⟩
 cases hv : v.ownBlock <;> simp
theorem recs_next {rs : List (List UInt8)} {r : List UInt8} (h : recsOk rs) (hr : r.length ≤ 300) : recsOk (rs ++ [r]) := fun t ht => by
 rcases List.mem_append.1 ht with h1 | h1
 · exact h t h1
 · rw [List.mem_singleton.1 h1]; exact hr
theorem lists_next (xs : List ByteArray) (x : ByteArray) : lists (xs ++ [x]) = lists xs ++ [x.data.toList] := by unfold lists; simp
set_option maxHeartbeats 2000000 in
set_option maxRecDepth 100000 in
theorem implPutLog (a : Option Addr) (n c : Nat) (xs : List ByteArray) (hn : n ≤ 1048576) (hf : FitS xs) (w : World) (h : StrAt w a n c xs) :
   Calls Try.prog 18 #[.slice a n c] w (TextIs w (putLogB (lists xs))) := by
 have HR := Lib.hid h
 have HL := Lib.hid h.1
 have HF := Lib.hid hf
 have hnc := h.2.1
 clear h hf
 go_enter Try.func18, Try.ntmps18
 go_wp2_with fail
 go_loopw [3, 8] (fun vv ii wr => ∃ (i m : Nat), i ≤ n ∧ ii = .int .i64 i ∧ m ≤ 356 * i ∧ (∃ a c, vv = .slice a m c) ∧ Hid (m = (logB (lists (xs.take i))).length ∧ BRow w wr vv (logB (lists (xs.take i))) ∧ recsOk (lists (xs.take i)))) (fun _ ii _ => n - (intOf ii).toNat)
 case atStart => exact ⟨0, 0, Nat.zero_le _, rfl, Nat.zero_le _, ⟨_, _, rfl⟩, rfl, brow_nil _, fun r hr => by simp [lists] at hr⟩
 case round =>
   obtain ⟨i, m, hi, rfl, hm, ⟨ra, rc, hv⟩, HX⟩ := hrel
   subst hv
   by_cases hlt : i < n
   · obtain ⟨x, hx⟩ : ∃ x, xs[i]? = some x := ⟨_, List.getElem?_eq_getElem (by rw [HL.out]; exact hlt)⟩
     obtain ⟨g, hg, c0'⟩ := HR.out.2.2 i x hx
     subst hg
     have c0 := (HX.out.2.1.below.cell (p := ⟨g, i, none⟩) (cell_lt c0')).trans c0'
     have hxm := HF.out x (List.mem_of_getElem? hx)
     have HTK := Lib.hid (show lists (xs.take (i + 1)) = lists (xs.take i) ++ [x.data.toList] by rw [take_next hx, lists_next])
     have HXX := Lib.hid (lists_at hx)
     have i1 : (i : Int) < (n : Int) := by omega
     have i0 : (0 : Int) ≤ (i : Int) := by omega
     have hxl : x.data.toList.length = x.size := by simp
     clear hx c0'
     by_cases h300 : x.size ≤ 300
     · have h3i : ¬ (300 : Int) < (x.size : Int) := by omega
       have HOK := Lib.hid (show recsOk (lists (xs.take (i + 1))) by rw [HTK.out]; exact recs_next HX.out.2.2 (by omega))
       have HLN := Lib.hid (rec_len (n := m) (first := true) (r := x.data.toList) (by omega))
       go_wp2_with fail
       refine (logged_at x m h300 (by omega) _).mono ?_
       intro e w2 h2
       obtain ⟨T, hT, hTs, rfl, b2⟩ := h2.text
       have HM := Lib.hid (show logB (lists (xs.take (i + 1))) = logB (lists (xs.take i)) ++ T.data.toList by
         rw [HTK.out, log_snoc (by omega), appendB, if_pos (by omega), hT, ← HX.out.1])
       have hTl : T.size ≤ 356 := by rw [hTs]; exact HLN.out
       have HTL := Lib.hid (show T.data.toList.length = T.size by simp)
       have R2 := Lib.hid (brow_under HX.out.2.1 b2)
       have hm3 : m + T.size ≤ 356 * (i + 1) := by omega
       clear h2 hT hTs b2 c0
       go_wp2_with (at_builtin; refine wpList_plain rfl (fun K hK => ?_); refine op_pushS T _ _ rfl rfl rfl R2.out (by rw [← HX.out.1]; omega) ?_; intro v7 w7 t7 _; refine hK _ _ ?_; clear hK K; rw [← HM.out] at t7; have T7 := Lib.hid t7; clear t7)
       go_roundw
       case rel =>
         refine ⟨i + 1, m + T.size, by omega, by go_num, hm3, ?_, ?_, T7.out, HOK.out⟩
         · obtain ⟨a', c', e⟩ := brow_len T7.out
           rw [HM.out, List.length_append, ← HX.out.1, HTL.out] at e
           exact ⟨a', c', e⟩
         · rw [HM.out, List.length_append, ← HX.out.1, HTL.out]
       case measure => simp [intOf]; omega
     · have h3i : (300 : Int) < (x.size : Int) := by omega
       have HNO := Lib.hid (show putLogB (lists xs) = [] by
         unfold putLogB
         rw [if_neg]
         intro hok
         have := hok x.data.toList (List.mem_of_getElem? HXX.out)
         omega)
       go_wp2
       go_ret
       exact ⟨by rw [HNO.out]; rfl, HX.out.2.1.below⟩
   · obtain rfl : i = n := by omega
     have h3 : ¬ (i : Int) < (i : Int) := by omega
     have HE := Lib.hid (show xs.take i = xs from List.take_of_length_le (by rw [HL.out]; exact Nat.le_refl _))
     rw [HE.out] at HX
     have HP := Lib.hid (show putLogB (lists xs) = logB (lists xs) by
       unfold putLogB
       rw [if_pos HX.out.2.2])
     have HB := Lib.hid HX.out.2.1.below
     rcases brow_either HX.out.2.1 with ⟨e1, e2⟩ | ⟨g, c', e1⟩
     · have HZ := Lib.hid e2
       obtain ⟨rfl, rfl, rfl⟩ : ra = none ∧ m = 0 ∧ rc = 0 := by cases e1; exact ⟨rfl, rfl, rfl⟩
       have hcv := run_convert_bytes_nil (P := Try.prog) wr 22 5 Try.underlying22 Try.underlying5 0 0 9 Try.underlying9
       go_wp2
       go_ret
       exact ⟨by rw [HP.out, HZ.out]; rfl, HB.out⟩
     · obtain ⟨rfl, rfl⟩ : ra = some ⟨g, 0, none⟩ ∧ rc = c' := by cases e1; exact ⟨rfl, rfl⟩
       have hcv := HX.out.2.1
       rw [e1, ← HX.out.1] at hcv
       have hcv := hcv.str (n := m) HX.out.1.symm
       clear e1
       go_wp2
       go_ret
       exact ⟨by rw [HP.out]; rfl, HB.out⟩
end Go.Proofs.Ytjcgbpjgoacdjaa
