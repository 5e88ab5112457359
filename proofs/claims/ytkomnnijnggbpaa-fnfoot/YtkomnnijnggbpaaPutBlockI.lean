/- The program's PutBlock. -/
import Derived.Test.YtkomnnijnggbpaaBlkHold
import Derived.Test.YtkomnnijnggbpaaPutBlockS
namespace Go.Proofs.Ytkomnnijnggbpaa
open Go.RowKit Go.Shelf
set_option linter.unusedVariables false
attribute [local go_sem] Oper.semAt_some

theorem textIs_of {w w' : World} {A : ByteArray} {l : List UInt8} {e : Ending} (h : A.data.toList = l) (he : e = .returned (.string A)) (hb : Below w.heap.size w w') : TextIs w l e w' := ⟨by rw [he, as_text h], hb⟩
def noPanic (Q : Exit → Act → World → Prop) : Exit → Act → World → Prop
 | .panic _, _, _ => False
 | e, a, w => Q e a w
theorem noPanic_normal {Q : Exit → Act → World → Prop} {a : Act} {w : World} : noPanic Q .normal a w = Q .normal a w := rfl
theorem wp_noPanic {P : Program} {c : Code} {Q : Exit → Act → World → Prop} {a : Act} {w : World} (h : c.wp P (noPanic Q) a w) : c.wp P Q a w :=
 Code.wp_mono (fun e a w h => by cases e <;> first | exact h | exact h.elim) h

set_option maxRecDepth 100000 in
set_option maxHeartbeats 4000000 in
theorem implPutBlock_in (a : Option Addr) (m c : Nat) (xs : List Cel) (e : Nat) (h1 : 1 ≤ e) (h16 : e ≤ 16) (hm : m ≤ 50) (hf : Fit xs) (hok : cellsOk xs = true) (w : World) (h : CelRowO w a m c xs) :
   CallsIn Fence.wide 5 Try.prog 52 #[.slice a m c, .int .i64 e] w (TextIs w (block xs e)) := by
 have HR := Lib.hid h
 have HF := Lib.hid hf
 have HB := Lib.hid hok
 have B0 := Lib.hid (one_below w (.cells #[.int .i64 e] 3))
 clear h hf hok
 refine callsIn_of_wp_marks Try.func52 rfl trivial ?_ rfl
 simp only [Try.ntmps52, List.size_toArray, List.length_cons, List.length_nil, Nat.reduceAdd, Nat.reduceSub, Array.replicate_succ, Array.replicate_zero, List.push_toArray, List.append_toArray, List.nil_append, List.cons_append]
 have g1 : ¬ (e : Int) < 1 := by omega
 have g2 : ¬ (16 : Int) < (e : Int) := by omega
 have g3 : ¬ (50 : Int) < (m : Int) := by omega
 gi_wp2_with fail
 refine wpIn_scope ?_
 gi_wp2_with fail
 refine ⟨trivial, ?_⟩
 refine (callsIn_wide.2 (implCellsOkO a m c xs (by omega) HF.out _ (HR.out.below B0.out))).mono ?_
 rw [HB.out]
 rintro e' w1 ⟨rfl, hb1⟩
 have HD := Lib.hid (head_new HR.out hb1)
 have C1 := Lib.hid ((blk1 (show w1.heap[w.heap.size]? = some (.cells #[.int .i64 e] 3 (0, 0)) from (hb1.block _ (by simp)).trans (alloc_at w _))).1)
 clear hb1 g1 g2 g3
 have c1 := C1.out
 have c2 : ((w1.alloc (.cells #[.slice none 0 0] 22)).alloc (.cells #[.slice none 0 0] 22)).cell? ⟨w.heap.size, 0, none⟩ = some (.int .i64 e) := (two_below0 w1 _ _).cell (p := ⟨w.heap.size, 0, none⟩) (cell_lt c1) |>.trans c1
 gi_wp2_with fail
 refine wpIn_label ?_
 gi_wp2_with fail
 refine ⟨trivial, ?_⟩
 refine (entriesOf_at _ a m c e _).mono ?_
 rintro e' w' ⟨rfl, rfl⟩
 obtain ⟨p, hp⟩ : ∃ p, w1.heap.size = p := ⟨_, rfl⟩
 obtain ⟨w5, hw5⟩ : ∃ W, (((w1.alloc (.cells #[.slice none 0 0] 22)).alloc (.cells #[.slice none 0 0] 22)).alloc (.cells #[.slice a m c] 24)).alloc (.cells #[.int .i64 e] 3) = W := ⟨_, rfl⟩
 simp only [World.size_alloc]
 rw [hw5, hp] at HD
 rw [hw5, hp]
 clear hw5 hp c1 c2 C1
 gi_wp2_with fail
 refine wpIn_rangeFunc_ownH (α := Ent) rfl (by decide) (gf := 86) (lb := #[.pointer (some ⟨p + 1 + 1, 0, none⟩), .pointer (some ⟨p + 1 + 1 + 1, 0, none⟩)]) rfl trivial (enters_of Try.func86 (by kernel_rfl) rfl)
   (entries_stops 4 (p + 4) p (p + 1) (p + 2) (p + 3) a m c xs e h1 h16 hm HF.out HB.out w5 HD.out.ent) (fun h k => ⟨h.1.trans k.1, Nat.le_trans h.2 k.2⟩) (fun W l o o' hl _ _ _ => ⟨keepNot_put W l o o' (by rw [HD.out.size] at hl; exact hl), by simp⟩) (Below.refl _ _) (fun _ => rfl)
   (fun pre W => ∃ vb vs, Blk w (p + 4) p (p + 1) w.heap.size e (blkB pre) (stFrom e 0 pre) vb vs W) (fun _ _ _ => False) (fun s X Y row hs hg hr => by
     obtain ⟨vb, vs, hb⟩ := hs
     exact ⟨vb, vs, hb.grown hg (fun j e' => by have := hr j e'; rwa [HD.out.size] at this) (by have := HD.out.lt; omega)⟩) (fun _ _ _ _ _ h => h.elim) ⟨_, _, HD.out.blk⟩
   (fun y a' W => ∃ A, a' = { tmps := #[.slice a m c, .int .i64 e, undef, .pointer (some ⟨w.heap.size, 0, none⟩), .string ⟨#[]⟩, .pointer (some ⟨p, 0, none⟩), .pointer (some ⟨p + 1, 0, none⟩), .int .i64 y.place, .pointer (some ⟨A, 0, none⟩), undef, .int .i64 e,
     .bool (decide ((e : Int) < 1)), .bool (decide ((e : Int) < 1)), .int .i64 e, .bool (decide (16 < (e : Int))), .bool (decide ((e : Int) < 1) || decide (16 < (e : Int))), .bool (decide ((e : Int) < 1) || decide (16 < (e : Int))), .slice a m c, .int .i64 m, .bool (decide (50 < (m : Int))),
     .bool (decide ((e : Int) < 1) || decide (16 < (e : Int)) || decide (50 < (m : Int))), .bool (decide ((e : Int) < 1) || decide (16 < (e : Int)) || decide (50 < (m : Int))), .slice a m c, .bool true, .bool false, .bool (decide ((e : Int) < 1) || decide (16 < (e : Int)) || decide (50 < (m : Int))), .slice a m c, .int .i64 e,
     .func (.func 86) #[] #[.pointer (some ⟨p + 1 + 1, 0, none⟩), .pointer (some ⟨p + 1 + 1 + 1, 0, none⟩)], .int .i64 y.place, .agg #[.int .i64 y.share, .string y.rest, .bool y.gone, .string y.value], undef, undef, undef, undef, undef, undef, undef, undef, undef, undef, undef, undef, undef,
     undef, undef, undef, undef, undef, undef, undef, undef, undef, undef], defers := [] } ∧ W.heap[A]? = some (.cells #[.int .i64 y.share, .string y.rest, .bool y.gone, .string y.value] 98 (0, 0)))
   (fun y a' s W W' row hs hg hr => ?ax) ?assign ?body ?done ?stop
 case ax =>
   obtain ⟨A, h1, h2⟩ := hs
   refine ⟨A, h1, (hg.block A (Array.getElem?_eq_some_iff.1 h2).1 (fun e => ?_)).trans h2⟩
   obtain ⟨_, o, ho, hc⟩ := hr A e.symm
   rw [h2] at ho
   cases ho
   cases hc
 case assign =>
   rintro l pre y W K ⟨vb, vs, bk⟩ hK
   unfold entVals
   gi_wp2
   refine hK _ _ ?_ ?_ ?_ ⟨W.heap.size, rfl, alloc_at W _⟩
   · exact (KeepsOthers.alloc W _).from _
   · exact ⟨fun k hk _ _ => alloc_old _ _ (by have := bk.size; omega), by simp⟩
   · exact ⟨vb, vs, bk.under (one_below W _)⟩
 case stop =>
   rintro D c' pre W hD hp h hK
   exact h.elim
 case body =>
   rintro l pre y a' W hl hr ⟨vb, vs, bk⟩ ⟨A, rfl, hA⟩ hlt
   obtain ⟨ad, cap, rfl⟩ := brow_slice bk.rowb
   have BK := Lib.hid bk
   have HA := Lib.hid hA
   obtain ⟨f0, f1, f2, f3⟩ := blk4 hA
   obtain ⟨b0, b1⟩ := blk1 bk.boxb
   obtain ⟨k1, k2, k3, k4⟩ := y.ok
   have hbl := blkB_len pre
   clear bk hA hr
   gi_wp2_with fail
   refine ⟨trivial, ?_⟩
   refine (calls_round (appendTo_at y.share y.rest y.value y.gone k2 k3 k4 _ (blkB pre) (by omega) w W BK.out.rowb)).mono ?_
   rintro e' w2 ⟨v2, rfl, t2, g2, h2⟩
   obtain ⟨ad2, cap2, hv2⟩ := brow_slice t2
   have he2 : blkB pre ++ entB y.share y.rest.data.toList (zOf y.gone y.value) y.value.data.toList = blkB pre ++ entBytes y := rfl
   rw [he2] at t2 hv2
   obtain ⟨nn, hnn⟩ : ∃ nn, (blkB pre ++ entBytes y).length = nn := ⟨_, rfl⟩
   rw [hnn] at hv2
   clear hnn
   subst hv2
   have kb : w2.heap[p]? = some (.cells #[.slice ad (blkB pre).length cap] 22 (0, 0)) := (g2.block _ (lt_of_blk BK.out.boxb) (BK.out.rowb.apart BK.out.boxb (by decide))).trans BK.out.boxb
   obtain ⟨s0, s1⟩ := blk1 kb
   have BK2 := Lib.hid (BK.out.setB t2 g2 h2 (by have := HD.out.lt; omega) (by omega) (by have := HD.out.lt; omega))
   have KF2 := Lib.hid ((keeps_grown (B := w5.heap.size) g2 (brow_cells BK.out.rowb)).trans ((KeepsOthers.setCell w2 ⟨p, 0, none⟩ (.slice ad2 nn cap2)).from _))
   have KN2 := Lib.hid (And.intro (BK.out.kept (v' := .slice ad2 nn cap2) g2 BK.out.size) (show W.heap.size ≤ (w2.setCell ⟨p, 0, none⟩ (.slice ad2 nn cap2)).heap.size by simpa using g2.size))
   have ce := (blk1 (show w2.heap[w.heap.size]? = some (.cells #[.int .i64 e] 3 (0, 0)) from (g2.block _ (lt_of_blk BK.out.every) (BK.out.rowb.apart BK.out.every (by decide))).trans BK.out.every)).1
   have cq := (blk1 (show w2.heap[p + 1]? = some (.cells #[vs] 22 (0, 0)) from (g2.block _ (lt_of_blk BK.out.boxs) (BK.out.rowb.apart BK.out.boxs (by decide))).trans BK.out.boxs)).1
   have hn1 : w.heap.size ≠ p := by have := HD.out.lt; omega
   have hn2 : p ≠ w.heap.size := Ne.symm hn1
   have hd0 : ((e : Int) == 0) = false := beq_eq_false_iff_ne.2 (by omega)
   have HHB := Lib.hid (show (blkB pre).length ≤ 3550 by omega)
   clear t2 g2 h2 kb b0 b1 f0 f1 f2 f3
   by_cases hmod : y.place % e = 0
   · have hmi : (y.place : Int) % (e : Int) = 0 := by omega
     have BK2d := Lib.hid (BK2.out.under (below_draws 1))
     have HPF := Lib.hid (show putFix ((blkB pre).length : Int) 2 = fixB (blkB pre).length 2 from putFix_in (n := (blkB pre).length) (b := 2) (by omega) (by omega))
     have HSL := Lib.hid (show (stFrom e 0 pre).length ≤ 100 by have := (stFrom_len e pre 0).1; omega)
     gi_wp2_with fail
--%REG10
     refine wpIn_region_any (by kernel_rfl) ?_
     change wpAnyIn _ _ _ _ _ _ _ _ _ (World.drew _)
     refine wpAnyIn_ready (rs := [0, 1]) (by kernel_rfl) (by simp) ?_
     refine (AllReadyIn.cons rfl (fun K hK => ?_) (AllReadyIn.cons rfl (fun K hK => ?_) AllReadyIn.nil))
     · skip
       go_simp
       refine hK _ _ ?_
       clear hK K
       refine wpAnyIn_ready (rs := [1]) (by kernel_rfl) (by simp) ?_
       refine (AllReadyIn.cons rfl (fun K hK => ?_) AllReadyIn.nil)
       go_simp
       refine hK _ _ ?_
       clear hK K
       refine wpAnyIn_ready (rs := [2]) (by kernel_rfl) (by simp) ?_
       refine (AllReadyIn.cons rfl (fun K hK => ?_) AllReadyIn.nil)
       go_simp
       first
         | refine ⟨trivial, (fun h => by cases h), ?_⟩
         | refine ⟨trivial, ?_⟩
       refine (calls_round (implPutFix ((blkB pre).length : Int) 2 _ (by have := HHB.out; omega) (by have := HHB.out; omega))).mono ?_
       intro e' w3 t3
       obtain ⟨F, hF, hFz, rfl, hb3⟩ := t3.text
       rw [HPF.out] at hF hFz
       rw [fix_length] at hFz
       have HFF := Lib.hid hF
       have hF2 : F.size ≤ 2 := by omega
       have BK3 := Lib.hid (Blk.under (W := (w2.setCell ⟨p, 0, none⟩ (.slice ad2 nn cap2)).drew) BK2d.out hb3)
       have DD3 := Lib.hid hb3
       clear hF hFz t3 hb3
       simp only []
       refine hK _ _ ?_
       clear hK K
       have q0 := (blk1 BK3.out.boxs).1
       refine wpAnyIn_ready (rs := [3]) (by kernel_rfl) (by simp) ?_
       refine (AllReadyIn.cons rfl (fun K hK => ?_) AllReadyIn.nil)
       refine opIn_pushA F _ _ rfl rfl rfl rfl BK3.out.rows (by have := HSL.out; omega) ?_
       intro v4 w4 t4 g4 h4
       obtain ⟨ad4, cap4, hv4⟩ := brow_slice t4
       obtain ⟨n4, hn4⟩ : ∃ n4, (stFrom e 0 pre ++ F.data.toList).length = n4 := ⟨_, rfl⟩
       rw [hn4] at hv4
       clear hn4
       subst hv4
       have BK4 := Lib.hid (BK3.out.setS t4 g4 h4 (by have := HD.out.lt; omega) (by omega) (by have := HD.out.lt; omega))
       have kq : w4.heap[p + 1]? = some (.cells #[vs] 22 (0, 0)) := (g4.block _ (lt_of_blk BK3.out.boxs) (BK3.out.rows.apart BK3.out.boxs (by decide))).trans BK3.out.boxs
       have KF4 := Lib.hid ((keeps_grown (B := w5.heap.size) g4 (brow_cells BK3.out.rows)).trans ((KeepsOthers.setCell w4 ⟨p + 1, 0, none⟩ (.slice ad4 n4 cap4)).from _))
       have KN4 := Lib.hid (BK3.out.kept2 (v' := .slice ad4 n4 cap4) g4 BK3.out.size)
       have GS4 := Lib.hid g4.size
       obtain ⟨z0, z1⟩ := blk1 kq
       clear t4 g4 h4 kq
       refine hK _ _ ?_
       clear hK K
       refine wpAnyIn_ready (rs := [4]) (by kernel_rfl) (by simp) ?_
       refine (AllReadyIn.cons rfl (fun K hK => ?_) AllReadyIn.nil)
       go_simp
       refine hK _ _ ?_
       clear hK K
       refine wpAnyIn_done (by kernel_rfl) ?_ _
       gi_wp2
       refine ⟨(KF2.out.trans (keeps_grown (B := w5.heap.size) (row := none) ((grown_drewN _ 1 none).trans (grown_under DD3.out none)) (fun g h => by cases h))).trans KF4.out, ⟨(KN2.out.1.trans (keepNot_below (W' := w3) ((below_draws 1).trans (DD3.out.mono (by simp))) BK2.out.size)).trans KN4.out, ?_⟩, .slice ad2 nn cap2, .slice ad4 n4 cap4, ?_⟩
       · have a1 := KN2.out.2
         have a2 := DD3.out.size
         have a3 := GS4.out
         simp at a1 a2 ⊢
         omega
       · rw [blkB_snoc, stFrom_snoc, if_pos hmod, Nat.zero_add, ← HFF.out]
         exact BK4.out
     · skip
       go_simp
       refine hK _ _ ?_
       clear hK K
       refine wpAnyIn_ready (rs := [0, 2]) (by kernel_rfl) (by simp) ?_
       refine (AllReadyIn.cons rfl (fun K hK => ?_) (AllReadyIn.cons rfl (fun K hK => ?_) AllReadyIn.nil))
       · skip
         go_simp
         refine hK _ _ ?_
         clear hK K
         refine wpAnyIn_ready (rs := [2]) (by kernel_rfl) (by simp) ?_
         refine (AllReadyIn.cons rfl (fun K hK => ?_) AllReadyIn.nil)
         go_simp
         first
           | refine ⟨trivial, (fun h => by cases h), ?_⟩
           | refine ⟨trivial, ?_⟩
         refine (calls_round (implPutFix ((blkB pre).length : Int) 2 _ (by have := HHB.out; omega) (by have := HHB.out; omega))).mono ?_
         intro e' w3 t3
         obtain ⟨F, hF, hFz, rfl, hb3⟩ := t3.text
         rw [HPF.out] at hF hFz
         rw [fix_length] at hFz
         have HFF := Lib.hid hF
         have hF2 : F.size ≤ 2 := by omega
         have BK3 := Lib.hid (Blk.under (W := (w2.setCell ⟨p, 0, none⟩ (.slice ad2 nn cap2)).drew) BK2d.out hb3)
         have DD3 := Lib.hid hb3
         clear hF hFz t3 hb3
         simp only []
         refine hK _ _ ?_
         clear hK K
         have q0 := (blk1 BK3.out.boxs).1
         refine wpAnyIn_ready (rs := [3]) (by kernel_rfl) (by simp) ?_
         refine (AllReadyIn.cons rfl (fun K hK => ?_) AllReadyIn.nil)
         refine opIn_pushA F _ _ rfl rfl rfl rfl BK3.out.rows (by have := HSL.out; omega) ?_
         intro v4 w4 t4 g4 h4
         obtain ⟨ad4, cap4, hv4⟩ := brow_slice t4
         obtain ⟨n4, hn4⟩ : ∃ n4, (stFrom e 0 pre ++ F.data.toList).length = n4 := ⟨_, rfl⟩
         rw [hn4] at hv4
         clear hn4
         subst hv4
         have BK4 := Lib.hid (BK3.out.setS t4 g4 h4 (by have := HD.out.lt; omega) (by omega) (by have := HD.out.lt; omega))
         have kq : w4.heap[p + 1]? = some (.cells #[vs] 22 (0, 0)) := (g4.block _ (lt_of_blk BK3.out.boxs) (BK3.out.rows.apart BK3.out.boxs (by decide))).trans BK3.out.boxs
         have KF4 := Lib.hid ((keeps_grown (B := w5.heap.size) g4 (brow_cells BK3.out.rows)).trans ((KeepsOthers.setCell w4 ⟨p + 1, 0, none⟩ (.slice ad4 n4 cap4)).from _))
         have KN4 := Lib.hid (BK3.out.kept2 (v' := .slice ad4 n4 cap4) g4 BK3.out.size)
         have GS4 := Lib.hid g4.size
         obtain ⟨z0, z1⟩ := blk1 kq
         clear t4 g4 h4 kq
         refine hK _ _ ?_
         clear hK K
         refine wpAnyIn_ready (rs := [4]) (by kernel_rfl) (by simp) ?_
         refine (AllReadyIn.cons rfl (fun K hK => ?_) AllReadyIn.nil)
         go_simp
         refine hK _ _ ?_
         clear hK K
         refine wpAnyIn_done (by kernel_rfl) ?_ _
         gi_wp2
         refine ⟨(KF2.out.trans (keeps_grown (B := w5.heap.size) (row := none) ((grown_drewN _ 1 none).trans (grown_under DD3.out none)) (fun g h => by cases h))).trans KF4.out, ⟨(KN2.out.1.trans (keepNot_below (W' := w3) ((below_draws 1).trans (DD3.out.mono (by simp))) BK2.out.size)).trans KN4.out, ?_⟩, .slice ad2 nn cap2, .slice ad4 n4 cap4, ?_⟩
         · have a1 := KN2.out.2
           have a2 := DD3.out.size
           have a3 := GS4.out
           simp at a1 a2 ⊢
           omega
         · rw [blkB_snoc, stFrom_snoc, if_pos hmod, Nat.zero_add, ← HFF.out]
           exact BK4.out
       · skip
         go_simp
         first
           | refine ⟨trivial, (fun h => by cases h), ?_⟩
           | refine ⟨trivial, ?_⟩
         refine (calls_round (implPutFix ((blkB pre).length : Int) 2 _ (by have := HHB.out; omega) (by have := HHB.out; omega))).mono ?_
         intro e' w3 t3
         obtain ⟨F, hF, hFz, rfl, hb3⟩ := t3.text
         rw [HPF.out] at hF hFz
         rw [fix_length] at hFz
         have HFF := Lib.hid hF
         have hF2 : F.size ≤ 2 := by omega
         have BK3 := Lib.hid (Blk.under (W := (w2.setCell ⟨p, 0, none⟩ (.slice ad2 nn cap2)).drew) BK2d.out hb3)
         have DD3 := Lib.hid hb3
         clear hF hFz t3 hb3
         simp only []
         refine hK _ _ ?_
         clear hK K
         have q0 := (blk1 BK3.out.boxs).1
         refine wpAnyIn_ready (rs := [0]) (by kernel_rfl) (by simp) ?_
         refine (AllReadyIn.cons rfl (fun K hK => ?_) AllReadyIn.nil)
         go_simp
         refine hK _ _ ?_
         clear hK K
         refine wpAnyIn_ready (rs := [3]) (by kernel_rfl) (by simp) ?_
         refine (AllReadyIn.cons rfl (fun K hK => ?_) AllReadyIn.nil)
         refine opIn_pushA F _ _ rfl rfl rfl rfl BK3.out.rows (by have := HSL.out; omega) ?_
         intro v4 w4 t4 g4 h4
         obtain ⟨ad4, cap4, hv4⟩ := brow_slice t4
         obtain ⟨n4, hn4⟩ : ∃ n4, (stFrom e 0 pre ++ F.data.toList).length = n4 := ⟨_, rfl⟩
         rw [hn4] at hv4
         clear hn4
         subst hv4
         have BK4 := Lib.hid (BK3.out.setS t4 g4 h4 (by have := HD.out.lt; omega) (by omega) (by have := HD.out.lt; omega))
         have kq : w4.heap[p + 1]? = some (.cells #[vs] 22 (0, 0)) := (g4.block _ (lt_of_blk BK3.out.boxs) (BK3.out.rows.apart BK3.out.boxs (by decide))).trans BK3.out.boxs
         have KF4 := Lib.hid ((keeps_grown (B := w5.heap.size) g4 (brow_cells BK3.out.rows)).trans ((KeepsOthers.setCell w4 ⟨p + 1, 0, none⟩ (.slice ad4 n4 cap4)).from _))
         have KN4 := Lib.hid (BK3.out.kept2 (v' := .slice ad4 n4 cap4) g4 BK3.out.size)
         have GS4 := Lib.hid g4.size
         obtain ⟨z0, z1⟩ := blk1 kq
         clear t4 g4 h4 kq
         refine hK _ _ ?_
         clear hK K
         refine wpAnyIn_ready (rs := [4]) (by kernel_rfl) (by simp) ?_
         refine (AllReadyIn.cons rfl (fun K hK => ?_) AllReadyIn.nil)
         go_simp
         refine hK _ _ ?_
         clear hK K
         refine wpAnyIn_done (by kernel_rfl) ?_ _
         gi_wp2
         refine ⟨(KF2.out.trans (keeps_grown (B := w5.heap.size) (row := none) ((grown_drewN _ 1 none).trans (grown_under DD3.out none)) (fun g h => by cases h))).trans KF4.out, ⟨(KN2.out.1.trans (keepNot_below (W' := w3) ((below_draws 1).trans (DD3.out.mono (by simp))) BK2.out.size)).trans KN4.out, ?_⟩, .slice ad2 nn cap2, .slice ad4 n4 cap4, ?_⟩
         · have a1 := KN2.out.2
           have a2 := DD3.out.size
           have a3 := GS4.out
           simp at a1 a2 ⊢
           omega
         · rw [blkB_snoc, stFrom_snoc, if_pos hmod, Nat.zero_add, ← HFF.out]
           exact BK4.out
   · have hmi : 0 < (y.place : Int) % (e : Int) := by
       have h0 : (0 : Int) ≤ (y.place : Int) % (e : Int) := Int.emod_nonneg _ (by omega)
       have h1 : (y.place : Int) % (e : Int) ≠ 0 := by omega
       omega
     gi_wp2
     refine ⟨KF2.out, KN2.out, .slice ad2 nn cap2, vs, ?_⟩
     rw [blkB_snoc, stFrom_snoc, if_neg hmod, List.append_nil]
     exact BK2.out
 case done =>
   rintro D ys W hD hys ⟨vb, vs, bk⟩ hK
   obtain ⟨ad, cap, rfl⟩ := brow_slice bk.rowb
   obtain ⟨ad2, cap2, rfl⟩ := brow_slice bk.rows
   have BK := Lib.hid bk
   have HK := Lib.hid hK
   obtain ⟨b0, b1⟩ := blk1 bk.boxb
   obtain ⟨b2, b3⟩ := blk1 bk.boxs
   clear bk hK
   gi_wp2_with fail
--%DONE
   refine wpIn_wide.2 ?_
   obtain ⟨O, hO, hOs⟩ := text_of (blkB ys)
   obtain ⟨S, hS, hSs⟩ := text_of (stFrom e 0 ys)
   have HO := Lib.hid (as_text hO)
   have HS := Lib.hid (as_text hS)
   have l1 := blkB_len ys
   have l2 := (stFrom_len e ys 0).1
   have l3 : ys.length = m := hys.1
   obtain ⟨e1, e2⟩ := ents_block (e := e) (xs := xs) (ys := ys) (by rw [HR.out.1]; exact hys)
   have HOE := Lib.hid (show O.data.toList = entries e 0 [] xs by rw [hO, e1])
   have HSE := Lib.hid (show S.data.toList = startsB e 0 0 [] xs by rw [hS, e2])
   obtain ⟨q, hq⟩ : ∃ q, (stFrom e 0 ys).length / 2 = q := ⟨_, rfl⟩
   have hq1 : ((stFrom e 0 ys).length : Int) / 2 = (q : Int) := by omega
   have hq9 : q ≤ 50 := by omega
   have hwq : IntKind.i64.wrap (q : Int) = (q : Int) := IntWalk.i64_in _ (by omega)
   have HPF := Lib.hid (show putFix (q : Int) 2 = fixB (S.size / 2) 2 by rw [hSs, hq]; exact putFix_in (n := q) (b := 2) (by omega) (by omega))
   have q1 : ¬ 9223372036854775807 < O.size + S.size := by omega
   have hO9 : O.size ≤ 3550 := by omega
   have hS9 : S.size ≤ 100 := by omega
   clear hO hS e1 e2 l1 l2 hOs hSs hq
   refine wp_noPanic ?_
   refine wp_region_held_drew (S := fun w' => w'.heap[D]? = some (.deferred (some [])) ∧ Blk w (p + 4) p (p + 1) w.heap.size e (blkB ys) (stFrom e 0 ys) (.slice ad (blkB ys).length cap) (.slice ad2 (stFrom e 0 ys).length cap2) w') (by kernel_rfl) ⟨HK.out, BK.out.under (below_draws 1)⟩ (fun hHeld => ?_)
   refine tk 0 (some 44) ?_ ?hy hHeld ?_
   case hy => (intro w' hS; have h := (blk1 hS.2.boxb).1; clear hS; go_simp <;> with_reducible rfl)
   simp only [Act.put, sA, sB, sC]
   refine tk 1 (some 45) ?_ ?hy hHeld ?_
   case hy => (intro w' hS; have h := conv_row hS.2.rowb; rw [HO.out] at h; clear hS; go_simp <;> with_reducible rfl)
   simp only [Act.put, sA, sB, sC]
   refine tk 2 (some 46) ?_ ?hy hHeld ?_
   case hy => (intro w' hS; have h := (blk1 hS.2.boxs).1; clear hS; go_simp <;> with_reducible rfl)
   simp only [Act.put, sA, sB, sC]
   refine tk 3 (some 47) ?_ ?hy hHeld ?_
   case hy => (intro w' hS; have h := conv_row hS.2.rows; rw [HS.out] at h; clear hS; go_simp <;> with_reducible rfl)
   simp only [Act.put, sA, sB, sC]
   refine tk 4 (some 48) ?_ ?hy hHeld ?_
   case hy => (intro w' hS; clear hS; go_simp <;> with_reducible rfl)
   simp only [Act.put, sA, sB, sC]
   refine tk 5 (some 49) ?_ ?hy hHeld ?_
   case hy => (intro w' hS; have h := (blk1 hS.2.boxs).1; clear hS; go_simp <;> with_reducible rfl)
   simp only [Act.put, sA, sB, sC]
   refine tk 6 (some 50) ?_ ?hy hHeld ?_
   case hy => (intro w' hS; clear hS; go_simp <;> with_reducible rfl)
   simp only [Act.put, sA, sB, sC]
   refine tk 7 (some 51) ?_ ?hy hHeld ?_
   case hy => (intro w' hS; clear hS; go_simp <;> with_reducible rfl)
   simp only [Act.put, sA, sB, sC]
   refine wpAnyH_ready (rs := [8]) (by kernel_rfl) (by simp) ?_
   refine AllReadyH.cons rfl (fun K hK => ?_) AllReadyH.nil
   go_simp
   refine (implPutFix (q : Int) 2 _ (by omega) (by omega)).mono ?_
   intro e' w3 t3
   obtain ⟨F, hF, hFz, rfl, hb3⟩ := t3.text
   rw [HPF.out] at hF hFz
   rw [fix_length] at hFz
   have HFF := Lib.hid hF
   have q2 : ¬ 9223372036854775807 < O.size + S.size + F.size := by omega
   have BK3 := Lib.hid (And.intro ((hb3.block D (Array.getElem?_eq_some_iff.1 HK.out).1).trans HK.out) (Blk.under (W := W.drewN 1) (BK.out.under (below_draws 1)) hb3))
   clear hF hFz t3 hb3
   go_wp2_with fail
   refine hK.out _ _ BK3.out (fun hHeld => ?_)
   clear hK K
   refine tk 9 (some 53) ?_ ?hy hHeld ?_
   case hy => (intro w' hS; clear hS; go_simp <;> with_reducible rfl)
   simp only [Act.put, sA, sB, sC]
   refine tk 10 (some 4) ?_ ?hy hHeld ?_
   case hy => (intro w' hS; clear hS; go_simp <;> with_reducible rfl)
   simp only [Act.put, sA, sB, sC]
   refine wpAnyH_done (by kernel_rfl) ?_ _
   have HBT := Lib.hid (block_text HOE.out HSE.out HFF.out)
   rw [noPanic_normal]
   gi_wp2
   refine ⟨by simp, .inl ⟨_, _, rfl, run_takeDeferred BK3.out.1, ?_⟩⟩
   refine ⟨_, results_tmp rfl _ _ _, ?_⟩
   refine textIs_of (A := O ++ S ++ F) HBT.out rfl (BK3.out.2.rowb.below.trans (belowK_b (w := w) (Nat.le_refl _) _ D _ _ (by have := HD.out.lt; have := HD.out.size; omega) BK3.out.1 rfl rfl))
end Go.Proofs.Ytkomnnijnggbpaa
