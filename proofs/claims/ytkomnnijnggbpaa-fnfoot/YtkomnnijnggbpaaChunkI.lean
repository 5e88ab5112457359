/- The library's iterator over the parts of a list of cells: it yields them in order, as long as it is let. -/
import Derived.RangeFuncNested
import Derived.RangeFuncBound
import Derived.RangeFuncCalls
import Derived.RangeFuncLeaves
import Derived.RangeFuncBox
import Derived.Shelf.Abstract
import Derived.Shelf.RegionOpen
import Derived.WalkKit
import Derived.OwnWalkIn
import Derived.TacticsInMore
import Derived.LoopNIn
import Derived.LoopIn
import Derived.BigRegionIn
import Derived.Test.YtkomnnijnggbpaaPutTabS
import Derived.Test.YtkomnnijnggbpaaZ5
namespace Go.Proofs.Ytkomnnijnggbpaa
open Go.RowKit Go.Shelf
set_option linter.unusedVariables false
attribute [local go_sem] Oper.semAt_some

def chunkV (g off m z k : Nat) : Value := .slice (some ⟨g, off + k * z * 5, none⟩) (min z (m - k * z)) (min z (m - k * z))
theorem cut_part (W : World) (g off m c q E : Nat) (h : q + E ≤ m) (hE : 1 ≤ E) (hc : m ≤ c) :
   (Instr.sliceAt 24 (.slice (some ⟨g, off, none⟩) m c) (some (.int .i64 q)) (some (.int .i64 ((q : Int) + (E : Int)))) (some (.int .i64 ((q : Int) + (E : Int))))).run Try.prog W = .ok (.slice (some ⟨g, off + q * 5, none⟩) E E) W := by
 have hu : Try.prog.underlying 24 = some (.slice (Try.prog.elem 24)) := by kernel_rfl
 have hsz : (sizeOf (Try.prog.elem 24)).run Try.prog W = .ok 5 W := by kernel_rfl
 have e1 := run_sliceAt_slice (P := Try.prog) (w := W) 24 (.slice (some ⟨g, off, none⟩) m c) (some (.int .i64 q)) (some (.int .i64 ((q : Int) + (E : Int)))) (some (.int .i64 ((q : Int) + (E : Int)))) hu
 have e2 := run_slice_lhm (P := Try.prog) (w := W) 24 (some ⟨g, off, none⟩) m c hu .i64 .i64 .i64 q ((q : Int) + (E : Int)) ((q : Int) + (E : Int)) (by omega) (by omega) (Int.le_refl _) (by omega)
 rw [e1, e2, hsz]
 have q4 : ((q : Int) + (E : Int)).toNat = q + E := by omega
 show Result.ok (sliced _ _ _ _ _) W = _
 unfold sliced
 rw [q4, Int.toNat_natCast, if_neg (by omega), Nat.add_sub_cancel_left]
 have e3 : (⟨g, off, none⟩ : Addr).add (q * 5) = ⟨g, off + q * 5, none⟩ := by
   unfold Addr.add; split
   · have : q = 0 := by omega
     subst this; rfl
   · rfl
 simp only [Option.map_some, e3]
theorem cut_rest (W : World) (g off m c q : Nat) (h : q < m) (hc : m ≤ c) :
   (Instr.sliceAt 24 (.slice (some ⟨g, off, none⟩) m c) (some (.int .i64 q)) none none).run Try.prog W = .ok (.slice (some ⟨g, off + q * 5, none⟩) (m - q) (c - q)) W := by
 have hu : Try.prog.underlying 24 = some (.slice (Try.prog.elem 24)) := by kernel_rfl
 have hsz : (sizeOf (Try.prog.elem 24)).run Try.prog W = .ok 5 W := by kernel_rfl
 have e1 := run_sliceAt_slice (P := Try.prog) (w := W) 24 (.slice (some ⟨g, off, none⟩) m c) (some (.int .i64 q)) none none hu
 have e2 := run_slice_l (P := Try.prog) (w := W) 24 (some ⟨g, off, none⟩) m c hu .i64 q (by omega) (by omega)
 rw [e1, e2, hsz]
 show Result.ok (sliced _ _ _ _ _) W = _
 unfold sliced
 rw [Int.toNat_natCast, if_neg (by omega)]
 have e3 : (⟨g, off, none⟩ : Addr).add (q * 5) = ⟨g, off + q * 5, none⟩ := by
   unfold Addr.add; split
   · have : q = 0 := by omega
     subst this; rfl
   · rfl
 simp only [Option.map_some, e3]

theorem range_snoc {l : List Nat} {k : Nat} (h : l = List.range k) : l ++ [k] = List.range (k + 1) := by rw [h, List.range_succ]
theorem range_pre {j n : Nat} (h : j ≤ n) : List.range j <+: List.range n := by
 rw [List.prefix_iff_eq_take, List.length_range, List.take_range, Nat.min_eq_left h]

set_option maxRecDepth 100000 in
set_option maxHeartbeats 2000000 in
theorem chunk_in (n l Bl Bn g off : Nat) (a : Option Addr) (m c z nb : Nat) (ha : m ≠ 0 → a = some ⟨g, off, none⟩) (hz : 1 ≤ z) (hz2 : z ≤ 50) (hm : m ≤ 60) (hmc : m ≤ c) (hnb : (m + z - 1) / z = nb) (J Jx : List (Spot nb) → World → Prop)
   (hY : ∀ pre (x : Spot nb) W, J pre W → pre.length < nb → YieldAt Fence.wide (n - 1) Try.prog l #[chunkV g off m z x.at_] W fun e W' =>
     (e = .returned (.bool true) ∧ J (pre ++ [x]) W' ∧ KeptTwo Bl Bn W W') ∨ (e = .returned (.bool false) ∧ Jx (pre ++ [x]) W'))
   (B' : Nat) (hJA : AbidesFrom B' J) (W : World) (hk : Boxed W Bl 24 (.slice a m c)) (hb : Boxed W Bn 3 (.int .i64 z)) (h0 : J [] W) :
   CallsIn Fence.wide n Try.prog 75 #[.func (.yield l) #[] #[], .pointer (some ⟨Bl, 0, none⟩), .pointer (some ⟨Bn, 0, none⟩)] W fun e W' => (∃ v, e = .returned v) ∧
     ((∃ ys, spots ys = List.range nb ∧ J ys W') ∨ (∃ pre, spots pre <+: List.range nb ∧ Jx pre W')) := by
 have HY := Lib.hid hY
 have H0 := Lib.hid h0
 have BB := Lib.hid (And.intro hk hb)
 have HNB := Lib.hid hnb
 have HAA := Lib.hid ha
 clear hY h0 hk hb ha
 refine callsIn_of_wp Try.func75 rfl trivial ?_ rfl
 simp only [Try.ntmps75, List.size_toArray, List.length_cons, List.length_nil, Nat.reduceAdd, Nat.reduceSub, Array.replicate_succ, Array.replicate_zero, List.push_toArray, List.append_toArray, List.nil_append, List.cons_append]
 gi_wp2_with fail
 gi_loopw [4, 5] (fun ii ee wr => ∃ (j q : Nat) (pre : List (Spot nb)), j ≤ nb ∧ Hid (j * z = q) ∧ q ≤ 110 ∧ ii = .int .i64 q ∧ Boxed wr Bl 24 (.slice a m c) ∧ Boxed wr Bn 3 (.int .i64 z) ∧ J pre wr ∧ spots pre = List.range j)
   (fun ii _ _ => 200 - (intOf ii).toNat)
 case atStart => exact ⟨0, 0, [], by omega, Nat.zero_mul z, by omega, rfl, BB.out.1, BB.out.2, H0.out, rfl⟩
 case round =>
   obtain ⟨j, q, pre, hj, HQ, hq110, rfl, bk, bb, hJ, hsp⟩ := hrel
   have ck := bk.cell
   have cb := bb.cell
   have BW := Lib.hid (And.intro bk bb)
   have HJ := Lib.hid hJ
   have HSP := Lib.hid hsp
   clear bk bb hJ hsp
   by_cases hlt : q < m
   · have hjn : j < nb := by
       have h1 := blk_lt (n := m) (k := j) hz (by rw [HQ.out]; exact hlt)
       omega
     have haa := HAA.out (by omega)
     subst haa
     obtain ⟨E, hE⟩ : ∃ E, min z (m - q) = E := ⟨_, rfl⟩
     have hE1 : 1 ≤ E := by omega
     have hEm : q + E ≤ m := by omega
     have hEz : E ≤ z := by omega
     have j1 : (q : Int) < (m : Int) := by omega
     have hmin : (if m - q < z then (((m - q : Nat) : Int)) else (z : Int)) = (E : Int) := by split <;> omega
     have hmin2 : min (z : Int) ((m - q : Nat) : Int) = (E : Int) := by omega
     have hcr := fun W => cut_rest W g off m c q hlt hmc
     have hcp := fun W => cut_part W g off m c q E hEm hE1 hmc
     have HS2 := Lib.hid (show spots (pre ++ [(⟨j, hjn⟩ : Spot nb)]) = List.range (j + 1) by rw [spots_snoc, HSP.out, range_snoc rfl])
     have hyy := HY.out pre ⟨j, hjn⟩ wr.drew (hJA _ _ _ none HJ.out (grown_of_below (below_draws 1)) (fun _ h => by cases h)) (by rw [← spots_len, HSP.out, List.length_range]; exact hjn)
     have hcv : chunkV g off m z j = .slice (some ⟨g, off + q * 5, none⟩) E E := by unfold chunkV; rw [HQ.out, hE]
     simp only [hcv] at hyy
     have HYY := Lib.hid hyy
     clear hyy hcv
     gi_wp2_with fail
     obtain ⟨fn, tmps, assign, body, hy, hR⟩ := HYY.out
     gi_region
     have HR := Lib.hid hR
     have HY2 := Lib.hid hy
     clear hR hy hmin hmin2 hcr
     have hw1 : IntKind.i64.wrap ((q : Int) + (E : Int)) = (q : Int) + (E : Int) := IntWalk.i64_in _ (by omega)
     have hy := HY2.out
     have DR := Lib.hid (show KeptTwo Bl Bn wr wr.drew from ⟨rfl, rfl⟩)
     have ckd : wr.drew.cell? ⟨Bl, 0, none⟩ = some (.slice (some ⟨g, off, none⟩) m c) := ck
     have cbd : wr.drew.cell? ⟨Bn, 0, none⟩ = some (.int .i64 z) := cb
     clear ck cb
     generalize wr.drew = wd at *
     gi_wp2_with fail
     refine ⟨(fun h => by cases h), HR.out.mono ?_⟩
     rintro e W3 (⟨rfl, hJ3, hk3⟩ | ⟨rfl, hJx3⟩)
     · have bk3 : Boxed W3 Bl 24 (.slice (some ⟨g, off, none⟩) m c) := hk3.1.trans (DR.out.1.trans BW.out.1)
       have bb3 : Boxed W3 Bn 3 (.int .i64 z) := hk3.2.trans (DR.out.2.trans BW.out.2)
       have BW3 := Lib.hid (And.intro bk3 bb3)
       have cb3 := bb3.cell
       have HJ3 := Lib.hid hJ3
       have hw2 : IntKind.i64.wrap ((q : Int) + (z : Int)) = (q : Int) + (z : Int) := IntWalk.i64_in _ (by omega)
       clear hJ3 hk3 hy HY2 HR bk3 bb3 ckd cbd hcp
       gi_wp2
       go_roundw
       case rel => exact ⟨j + 1, q + z, _, by omega, (show (j + 1) * z = q + z by rw [Nat.succ_mul, HQ.out]), by omega, by go_num, BW3.out.1, BW3.out.2, HJ3.out, HS2.out⟩
       case measure => simp [intOf]; omega
     · have HX := Lib.hid hJx3
       clear hJx3 hy HY2 HR
       gi_wp2
       refine bodyPost_ret (results_none rfl _ _ _) rfl ?_
       exact ⟨⟨_, rfl⟩, .inr ⟨_, by rw [HS2.out]; exact range_pre hjn, HX.out⟩⟩
   · have hjn : j = nb := by
       have h1 : (m + z - 1) / z < j + 1 := by
         rw [Nat.div_lt_iff_lt_mul (by omega), Nat.succ_mul, HQ.out]
         omega
       rw [HNB.out] at h1
       omega
     have j1 : ¬ (q : Int) < (m : Int) := by omega
     gi_wp2
     go_end0
     exact ⟨⟨_, rfl⟩, .inl ⟨pre, by rw [HSP.out, hjn], HJ.out⟩⟩
theorem chunk_stops (n Bl Bn g off : Nat) (a : Option Addr) (m c z nb : Nat) (ha : m ≠ 0 → a = some ⟨g, off, none⟩) (hz : 1 ≤ z) (hz2 : z ≤ 50) (hm : m ≤ 60) (hmc : m ≤ c) (hnb : (m + z - 1) / z = nb) (w : World) (hk : Boxed w Bl 24 (.slice a m c)) (hb : Boxed w Bn 3 (.int .i64 z)) :
   SeqStopsK Fence.wide n Try.prog 75 #[.pointer (some ⟨Bl, 0, none⟩), .pointer (some ⟨Bn, 0, none⟩)] (fun x : Spot nb => #[chunkV g off m z x.at_]) (KeptTwo Bl Bn)
     (fun ys => spots ys = List.range nb) (fun pre => spots pre <+: List.range nb) nb w := fun l J Jx W hW hJ _ hY h0 =>
 chunk_in n l Bl Bn g off a m c z nb ha hz hz2 hm hmc hnb J Jx hY _ hJ W ((hW.block Bl hk.lt).trans hk) ((hW.block Bn hb.lt).trans hb) h0
theorem chunk_at (n : Nat) (a : Option Addr) (m c z : Nat) (hz : 1 ≤ z) (w : World) :
   CallsIn Fence.wide n Try.prog 51 #[.slice a m c, .int .i64 z] w fun e w' => e = .returned (.func (.func 75) #[] #[.pointer (some ⟨w.heap.size, 0, none⟩), .pointer (some ⟨w.heap.size + 1, 0, none⟩)]) ∧
     w' = (w.alloc (.cells #[.slice a m c] 24)).alloc (.cells #[.int .i64 z] 3) := by
 have h1 : ¬ (z : Int) < 1 := by omega
 refine callsIn_wide.2 ?_
 go_enter Try.func51, Try.ntmps51
 go_wp2
 go_ret
 exact ⟨by simp, rfl⟩
end Go.Proofs.Ytkomnnijnggbpaa
