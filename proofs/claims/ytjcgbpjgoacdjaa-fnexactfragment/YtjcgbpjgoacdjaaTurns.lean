/- Contract of the program's table of turns. -/
import Derived.Test.YtjcgbpjgoacdjaaSpecCrc
import Derived.Deep.WholeRow
import Derived.Laws.CopyOwn
namespace Go.Proofs.Ytjcgbpjgoacdjaa
open Go.RowKit
set_option linter.unusedVariables false

def u32v (n : Nat) : Value := .int .u32 n
theorem infoT : (Try.prog.info? 73).map (fun i => (i.zero, i.size)) = some (some (.agg ((List.replicate 256 0).map u32v).toArray), 256) := by kernel_rfl
theorem sizeT : (Try.prog.info? 73).map (·.size) = some 256 := by kernel_rfl
def turnsTo (k : Nat) : List Nat := (List.range k).map (stN 8) ++ List.replicate (256 - k) 0
theorem zeroT : ∃ zs : List Nat, zs = turnsTo 0 ∧ zs.length = 256 ∧ ∀ w : World, (zeroValue 73).run Try.prog w = .ok (.agg (zs.map u32v).toArray) w := by
 refine ⟨List.replicate 256 0, rfl, List.length_replicate, fun w => ?_⟩
 obtain ⟨i, hi, hzz⟩ := Option.map_eq_some_iff.1 infoT
 have h1 := (Prod.mk.inj hzz).1
 generalize ((List.replicate 256 0).map u32v).toArray = Z at h1 ⊢
 simp [zeroValue, typeInfo, hi, h1]

theorem turnsTo_length (k : Nat) (h : k ≤ 256) : (turnsTo k).length = 256 := by simp [turnsTo]; omega
theorem turnsTo_set (k : Nat) (h : k < 256) : (turnsTo k).set k (stN 8 k) = turnsTo (k + 1) := by
 unfold turnsTo
 rw [List.set_append_right _ _ (by simp), List.length_map, List.length_range, Nat.sub_self]
 have e : 256 - k = (256 - (k + 1)) + 1 := by omega
 rw [e, List.replicate_succ, List.set_cons_zero, List.range_succ, List.map_append]
 simp
theorem turnsTo_at (j : Nat) (h : j < 256) : (turnsTo 256)[j]? = some (stN 8 j) := by
 unfold turnsTo
 rw [List.getElem?_append_left (by rw [List.length_map, List.length_range]; exact h), List.getElem?_map, List.getElem?_range h]
 rfl

structure TAt (w wr : World) (xs : List Nat) : Prop where
 first : ∃ ys : List Nat, ys.length = 256 ∧ wr.heap[w.heap.size]? = some (.cells (ys.map u32v).toArray 73 (0, 0))
 block : wr.heap[w.heap.size + 1]? = some (.cells (xs.map u32v).toArray 73 (0, 0))
 below : Below w.heap.size w wr
theorem TAt.cell {w wr : World} {xs : List Nat} (t : TAt w wr xs) (j : Nat) (hj : j < xs.length) : wr.cell? ⟨w.heap.size + 1, j, none⟩ = some (u32v (xs.getD j 0)) := by
 simp [World.cell?, t.block, List.getElem?_eq_getElem hj]
theorem TAt.frozen {w wr : World} {xs : List Nat} (t : TAt w wr xs) (j : Nat) : wr.frozen? ⟨w.heap.size + 1, j, none⟩ = false := by
 simp [World.frozen?, t.block]
theorem TAt.set {w wr : World} {xs : List Nat} (t : TAt w wr xs) (k c : Nat) {v : Value} (hv : v = u32v c) : TAt w (wr.setCell ⟨w.heap.size + 1, k, none⟩ v) (xs.set k c) := by
 subst hv
 refine ⟨?_, ?_, t.below.trans ((Below.refl _ _).setCell (by simp) _)⟩
 · obtain ⟨ys, hy, hb⟩ := t.first
   exact ⟨ys, hy, (Below.heap_setCell _ _ _ _ (by simp)).trans hb⟩
 · rw [set_block _ t.block]
   simp [List.map_set]
theorem tat_new (w : World) (zs : List Nat) (hz : zs.length = 256) : TAt w ((w.alloc (.cells (zs.map u32v).toArray 73)).alloc (.cells (zs.map u32v).toArray 73)) zs := by
 refine ⟨⟨zs, hz, ?_⟩, ?_, ((Below.refl _ _).alloc (Nat.le_refl _) _).alloc (by simp) _⟩
 · rw [heap_alloc_old (w.alloc _) _ (by simp), heap_alloc_new]
 · have := heap_alloc_new (w.alloc (.cells (zs.map u32v).toArray 73)) (.cells (zs.map u32v).toArray 73)
   rw [show (w.alloc (.cells (zs.map u32v).toArray 73)).heap.size = w.heap.size + 1 by simp] at this
   exact this

def TurnsOut (w : World) (e : Ending) (w' : World) : Prop := e = .returned (.agg ((turnsTo 256).map u32v).toArray) ∧ Below w.heap.size w w'

set_option maxHeartbeats 1000000 in
set_option maxRecDepth 100000 in
theorem sumTurns_at (w : World) :
   Calls Try.prog 60 #[] w fun e w' => TurnsOut w e w' := by
 obtain ⟨zl, hzl, hzn, hz⟩ := zeroT
 have TN := Lib.hid (tat_new w zl hzn)
 have HZL := Lib.hid hzl
 generalize (zl.map u32v).toArray = zs at hz TN
 clear hzn hzl
 go_enter Try.func60, Try.ntmps60
 go_wp2_with fail
 go_loopw [5] (fun i wr => ∃ k : Nat, k ≤ 256 ∧ i = .int .i64 k ∧ TAt w wr (turnsTo k)) (fun i _ => 256 - (intOf i).toNat)
 case atStart => exact ⟨0, by omega, rfl, by rw [← HZL.out]; exact TN.out⟩
 case round =>
   clear hz TN HZL
   obtain ⟨k, hk, rfl, t⟩ := hrel
   have TT := Lib.hid t
   by_cases hlt : k < 256
   · obtain ⟨v0, hc⟩ : ∃ v0, wr.cell? ⟨w.heap.size + 1, k, none⟩ = some v0 := ⟨_, t.cell k (by rw [turnsTo_length k hk]; exact hlt)⟩
     have hf := t.frozen k
     clear t
     go_wp2_with fail
     go_loopw [3, 10] (fun x i wi => wi = wr ∧ ∃ j : Nat, j ≤ 8 ∧ i = .int .i64 j ∧ x = .int .u32 (stN j k : Nat)) (fun _ i _ => 8 - (intOf i).toNat)
     case atStart => exact ⟨rfl, 0, by omega, rfl, rfl⟩
     case round =>
       obtain ⟨rfl, j, hj, rfl, rfl⟩ := hrel
       have hZ := stN_lt (x := k) j (by omega)
       by_cases hj8 : j < 8
       · have HN := Lib.hid (stN_snoc j k)
         generalize stN j k = Z at hZ HN ⊢
         rcases Nat.mod_two_eq_zero_or_one Z with h2 | h2
         · have ha := and_one Z hZ
           rw [h2] at ha
           have HE := Lib.hid (stp_even h2)
           have HZ := Lib.hid hZ
           clear h2 hZ
           go_wp2
           go_roundw
           case rel => exact ⟨trivial, j + 1, by omega, by go_num, congrArg (Value.int IntKind.u32) (by rw [HN.out, HE.out])⟩
           case measure => simp [intOf]; omega
         · have ha := and_one Z hZ
           rw [h2] at ha
           have HE := Lib.hid (stp_odd hZ h2)
           have HZ := Lib.hid hZ
           clear h2 hZ
           go_wp2
           go_roundw
           case rel => exact ⟨trivial, j + 1, by omega, by go_num, congrArg (Value.int IntKind.u32) (by rw [HN.out, HE.out])⟩
           case measure => simp [intOf]; omega
       · obtain rfl : j = 8 := by omega
         clear hZ
         have HS := Lib.hid (turnsTo_set k hlt)
         obtain ⟨v, hv⟩ : ∃ v, ((stN 8 k : Nat) : Int) = v := ⟨_, rfl⟩
         rw [hv]
         have HV := Lib.hid hv
         clear hv
         go_wp2
         go_roundw
         case rel => exact ⟨k + 1, by omega, by go_num, by rw [← HS.out]; exact TT.out.set k _ (by unfold u32v; rw [HV.out])⟩
         case measure => simp [intOf]; omega
   · obtain rfl : k = 256 := by omega
     obtain ⟨ys, hyl, hyb⟩ := t.first
     have htb := t.block
     have hcl : ((turnsTo 256).map u32v).toArray.size = 256 := by rw [List.size_toArray, List.length_map, turnsTo_length 256 (Nat.le_refl _)]
     have hyl' : (ys.map u32v).toArray.size = 256 := by rw [List.size_toArray, List.length_map, hyl]
     have hone : ((turnsTo 256).map u32v).toArray.all (·.oneCell') = true := by
       rw [Array.all_eq_true_iff_forall_mem]
       intro x hx
       rw [List.mem_toArray] at hx
       obtain ⟨n, _, rfl⟩ := List.mem_map.1 hx
       rfl
     generalize hCS : ((turnsTo 256).map u32v).toArray = CS at htb hcl hone
     have HCS := Lib.hid hCS
     generalize (ys.map u32v).toArray = YS at hyb hyl'
     have F1 := Lib.hid htb
     have F2 := Lib.hid hyb
     have F3 := Lib.hid hcl
     have F4 := Lib.hid hyl'
     have F5 := Lib.hid hone
     clear htb hyb hcl hyl' hone hyl t hk hlt hCS
     go_wp2_with fail
     refine wp_load_row 73 _ rfl (w.heap.size + 1) rfl _ CS _ _ F1.out Try.underlying73 rfl (by rw [sizeT, F3.out]) ?_
     go_wp2_with (refine wpList_store_row rfl 73 _ _ rfl w.heap.size CS rfl rfl _ YS F2.out (by rw [sizeT, F3.out]) (by rw [F4.out, F3.out]) F5.out ?_)
     refine bodyPost_ret (v := .agg CS) (results_cell_row Try.results60 _ _ w.heap.size _ CS _ _ rfl (setRow_heap _ _ YS CS _ _ F2.out) Try.underlying73 rfl (by rw [sizeT, F3.out])) rfl ⟨?_, below_setRow TT.out.below (Nat.le_refl _) _⟩
     rw [HCS.out]
end Go.Proofs.Ytjcgbpjgoacdjaa
