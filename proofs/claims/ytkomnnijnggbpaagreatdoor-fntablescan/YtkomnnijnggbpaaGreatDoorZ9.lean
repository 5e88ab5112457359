/- The program's reader of a table's foot. -/
import Derived.Test.YtkomnnijnggbpaaGreatDoorZ7
import Derived.Test.YtkomnnijnggbpaaGreatDoorZ0
import Derived.Test.YtkomnnijnggbpaaGreatDoorZ1
import Derived.Test.YtkomnnijnggbpaaGreatDoorShelf
import Derived.WalkKit
import Derived.LaidEql
import Derived.Stop.Asserts
import Derived.RowKitTokens
import Derived.Test.YtkomnnijnggbpaaGreatDoorCards
import Derived.LaidLaws
import Derived.LaidHandle
import Derived.Stop.Joined
namespace Go.Proofs.YtkomnnijnggbpaaGreatDoor
open Go.RowKit
set_option linter.unusedVariables false

def IntBlk (w : World) (g : Nat) (ks : List Nat) (m : Nat) : Prop := w.heap[g]? = some (.cells (ks.map (fun k : Nat => Value.int .i64 (k : Int)) ++ List.replicate m (Value.int .i64 0)).toArray 109 (0, 0))
theorem IntBlk.set {w : World} {g m : Nat} {ks : List Nat} (h : IntBlk w g ks (m + 1)) (x : Nat) : IntBlk (w.setCell ⟨g, ks.length, none⟩ (.int .i64 x)) g (ks ++ [x]) m := by
 unfold IntBlk at h ⊢
 rw [set_block _ h]
 congr 2
 apply Array.toList_inj.1
 rw [Array.toList_setIfInBounds]
 rw [List.set_append_right _ _ (by simp), List.length_map, Nat.sub_self, List.replicate_succ, List.set_cons_zero]
 simp
theorem IntBlk.cell {w : World} {g m : Nat} {ks : List Nat} (h : IntBlk w g ks (m + 1)) : w.cell? ⟨g, ks.length, none⟩ = some (.int .i64 0) ∧ w.frozen? ⟨g, ks.length, none⟩ = false := by
 unfold IntBlk at h
 constructor
 · simp [World.cell?, h, List.replicate_succ]
 · simp [World.frozen?, h]
theorem IntBlk.at {w : World} {g m : Nat} {ks : List Nat} (h : IntBlk w g ks m) {j x : Nat} (hj : ks[j]? = some x) : w.cell? ⟨g, j, none⟩ = some (.int .i64 x) := by
 unfold IntBlk at h
 have hl := (List.getElem?_eq_some_iff.1 hj).1
 have : (ks.map (fun k : Nat => Value.int .i64 (k : Int)) ++ List.replicate m (Value.int .i64 0))[j]? = some (.int .i64 x) := by
   rw [List.getElem?_append_left (by simpa using hl), List.getElem?_map, hj]; rfl
 simp only [World.cell?, h]
 simpa using this
theorem IntBlk.grown {w w' : World} {g m p : Nat} {ks : List Nat} (h : IntBlk w g ks m) (hg : w.grownBy w' (some p)) (hne : g ≠ p) : IntBlk w' g ks m :=
 (hg.block g (Array.getElem?_eq_some_iff.1 h).1 (fun e => hne (Option.some.inj e))).trans h
theorem res_cell_tmp {P : Program} {fn : Func} {p q : Tmp} {ty : TypeId} {v : Value} (h : fn.results = #[.cell p ty, .tmp q]) (tmps : Array Value) (w : World) (g : Nat) (t : TypeId) (cs : Array Value) (fr : Nat × Nat) (d : TypeDesc)
   (hp : tmps.getD p undef = .pointer (some ⟨g, 0, none⟩)) (hq : tmps.getD q undef = v) (hg : w.heap[g]? = some (.cells cs t fr))
   (hu : P.underlying ty = some d) (hd : (match d with | .struct _ | .array _ _ => true | _ => false) = true) (hi : (P.info? ty).map (·.size) = some cs.size) :
   (results fn tmps).run P w = .ok (.tuple #[.agg cs, v]) w := by
 have hp' : tmps[p]?.getD undef = .pointer (some ⟨g, 0, none⟩) := by simpa using hp
 have hq' : tmps[q]?.getD undef = v := by simpa using hq
 simp [results, h, hp', hq', asAddr, run_loadVar_row w g t ty cs fr d hg hu hd hi]
theorem sizeFoot : (Tryz.prog.info? 117).map (·.size) = some 5 := by kernel_rfl
def footV (fr le ev sz : Nat) (pk : Bool) : Value := .agg #[.int .i64 fr, .int .i64 le, .int .i64 ev, .int .i64 sz, .bool pk]
def footNum (l : List UInt8) (i : Nat) : Nat := fixVal ((l.drop (l.length - 38 + 4 * i)).take 4)
theorem ends_has {l : List UInt8} (h : 38 ≤ l.length) : Lib.hasSuffix l [83, 72, 69, 76, 70, 49] = true ↔ endsRight l := by
 unfold Lib.hasSuffix endsRight
 rw [List.isSuffixOf_iff_suffix, List.suffix_iff_eq_drop]
 exact ⟨fun e => ⟨h, e.symm⟩, fun e => e.2.symm⟩
def FootRead (w : World) (p : Nat) (s : ByteArray) (e : Ending) (w' : World) : Prop :=
 w.grownBy w' (some p) ∧ ((¬ endsRight s.data.toList ∧ ∃ name, e = .returned (.tuple #[footV 0 0 0 0 false, badV name 1])) ∨
   (endsRight s.data.toList ∧ e = .returned (.tuple #[footV (footNum s.data.toList 0) (footNum s.data.toList 1) (footNum s.data.toList 5) (footNum s.data.toList 6) (decide (footNum s.data.toList 7 = 1)), .nilIface]) ∧ ∃ k : Int, RdT 115 w' p s k))
set_option maxHeartbeats 4000000 in
set_option maxRecDepth 100000 in
theorem readFoot_at (p : Nat) (s : ByteArray) (a : Int) (w : World) (h : RdT 115 w p s a) (hs : s.size ≤ 1048576) :
   Calls Tryz.prog 104 #[.pointer (some ⟨p, 0, none⟩)] w (FootRead w p s) := by
 have HLL := Lib.hid (show s.data.toList.length = s.size by simp)
 have HS := Lib.hid (show s.size ≤ maxLen by unfold maxLen; omega)
 have hpl := h.lt
 obtain ⟨c0, c1, f1⟩ := h.cells
 have c0' : (w.alloc (.cells #[.int .i64 0, .int .i64 0, .int .i64 0, .int .i64 0, .bool false] 117)).cell? ⟨p, 0, none⟩ = some (.string s) := (World.cell?_of_block (w := w) (alloc_old w _ hpl)).trans c0
 have c1' : (w.alloc (.cells #[.int .i64 0, .int .i64 0, .int .i64 0, .int .i64 0, .bool false] 117)).cell? ⟨p, 1, none⟩ = some (.int .i64 a) := (World.cell?_of_block (w := w) (alloc_old w _ hpl)).trans c1
 have G0 := Lib.hid ((grown_set w p 1 (.int .i64 ((s.size : Int) - 38))).trans (World.grownBy_alloc _ (.cells #[.int .i64 0, .int .i64 0, .int .i64 0, .int .i64 0, .bool false] 117) (some p)))
 have R0 := Lib.hid (show RdT 115 ((w.setCell ⟨p, 1, none⟩ (.int .i64 ((s.size : Int) - 38))).alloc (.cells #[.int .i64 0, .int .i64 0, .int .i64 0, .int .i64 0, .bool false] 117)) p s ((s.size : Int) - 38) from (alloc_old _ _ (by simpa using hpl)).trans (h.set _))
 have F0 := Lib.hid (show ((w.setCell ⟨p, 1, none⟩ (.int .i64 ((s.size : Int) - 38))).alloc (.cells #[.int .i64 0, .int .i64 0, .int .i64 0, .int .i64 0, .bool false] 117)).heap[w.heap.size]? = some (.cells #[.int .i64 0, .int .i64 0, .int .i64 0, .int .i64 0, .bool false] 117 (0, 0)) by
   have := alloc_at (w.setCell ⟨p, 1, none⟩ (.int .i64 ((s.size : Int) - 38))) (.cells #[.int .i64 0, .int .i64 0, .int .i64 0, .int .i64 0, .bool false] 117)
   simpa using this)
 clear h
 go_enter Tryz.func104, Tryz.ntmps104
 go_wp2_with fail
 obtain ⟨w1, hw1⟩ : ∃ W, (w.setCell ⟨p, 1, none⟩ (.int .i64 ((s.size : Int) - 38))).alloc (.cells #[.int .i64 0, .int .i64 0, .int .i64 0, .int .i64 0, .bool false] 117) = W := ⟨_, rfl⟩
 rw [hw1] at G0 R0 F0 ⊢
 clear hw1 c0 c1 f1 c0' c1'
 by_cases h38 : 38 ≤ s.size
 · obtain ⟨m, hm⟩ : ∃ m, s.size = m + 38 := ⟨s.size - 38, by omega⟩
   have R1 := Lib.hid (show RdT 115 w1 p s ((m : Nat) : Int) by have := R0.out; rwa [show (s.size : Int) - 38 = ((m : Nat) : Int) by omega] at this)
   have HM := Lib.hid hm
   refine (has_yes p s m 38 _ R1.out HS.out (by omega)).mono ?_
   rintro e w2 ⟨rfl, k, rfl⟩
   have R2 := Lib.hid (R1.out.drewN k)
   have G2 := Lib.hid (G0.out.trans (grown_drewN _ k (some p)))
   have F2 := Lib.hid (show (w1.drewN k).heap[w.heap.size]? = _ from F0.out)
   obtain ⟨w2, hw2⟩ : ∃ W, w1.drewN k = W := ⟨_, rfl⟩
   rw [hw2] at R2 G2 F2 ⊢
   clear hw2
   obtain ⟨c0, c1, f1⟩ := R2.out.cells
   go_wp2_with fail
   refine (Tryz.strings_HasSuffix s _ _ (by omega)).mono ?_
   rintro e w3 ⟨rfl, rfl⟩
   have HE := Lib.hid (ends_has (l := s.data.toList) (by rw [HLL.out]; exact h38))
   obtain ⟨en, hen⟩ : ∃ b, Lib.hasSuffix s.data.toList [83, 72, 69, 76, 70, 49] = b := ⟨_, rfl⟩
   rw [hen] at HE
   clear c0 c1 f1
   cases en
   · have HNE := Lib.hid (show ¬ endsRight s.data.toList from fun h => by have := HE.out.2 h; cases this)
     obtain ⟨o5, z0, z1, z2, z3, z4⟩ := blk5 F2.out
     unfold One5 at o5
     obtain ⟨b0, b1, b2, b3, b4⟩ := o5
     go_wp2
     refine bodyPost_ret (res_cell_tmp Tryz.results104 _ _ w.heap.size _ _ _ _ rfl rfl (set5 F2.out _ _ _ _ _) Tryz.underlying117 rfl (by rw [sizeFoot]; rfl)) rfl ?_
     exact ⟨grown_own (grown_own (grown_own (grown_own (grown_own G2.out (Nat.le_refl _) _) (Nat.le_refl _) _) (Nat.le_refl _) _) (Nat.le_refl _) _) (Nat.le_refl _) _, .inl ⟨HNE.out, _, rfl⟩⟩
   · have HEE := Lib.hid (HE.out.1 rfl)
     have N0 := Lib.hid (show IntBlk (w3.alloc (.cells #[.int .i64 0, .int .i64 0, .int .i64 0, .int .i64 0, .int .i64 0, .int .i64 0, .int .i64 0, .int .i64 0] 109)) w3.heap.size [] 8 by unfold IntBlk; rw [alloc_at]; rfl)
     have R3 := Lib.hid (show RdT 115 (w3.alloc (.cells #[.int .i64 0, .int .i64 0, .int .i64 0, .int .i64 0, .int .i64 0, .int .i64 0, .int .i64 0, .int .i64 0] 109)) p s ((m : Nat) : Int) from (alloc_old _ _ R2.out.lt).trans R2.out)
     have G3 := Lib.hid (G2.out.trans (World.grownBy_alloc _ (.cells #[.int .i64 0, .int .i64 0, .int .i64 0, .int .i64 0, .int .i64 0, .int .i64 0, .int .i64 0, .int .i64 0] 109) (some p)))
     have F3 := Lib.hid ((alloc_old w3 (.cells #[.int .i64 0, .int .i64 0, .int .i64 0, .int .i64 0, .int .i64 0, .int .i64 0, .int .i64 0, .int .i64 0] 109) (Array.getElem?_eq_some_iff.1 F2.out).1).trans F2.out)
     have hgn : w.heap.size < w3.heap.size := (Array.getElem?_eq_some_iff.1 F2.out).1
     go_wp2_with fail
     obtain ⟨g, hg⟩ : ∃ g, w3.heap.size = g := ⟨_, rfl⟩
     obtain ⟨w4, hw4⟩ : ∃ W, w3.alloc (.cells #[.int .i64 0, .int .i64 0, .int .i64 0, .int .i64 0, .int .i64 0, .int .i64 0, .int .i64 0, .int .i64 0] 109) = W := ⟨_, rfl⟩
     rw [hw4, hg] at N0
     rw [hw4] at R3 G3 F3 ⊢
     rw [hg] at hgn ⊢
     clear hw4 hg
     go_loopw [35] (fun ii wr => ∃ i : Nat, i ≤ 8 ∧ ii = .int .i64 i ∧ Hid (RdT 115 wr p s ((m + 4 * i : Nat) : Int) ∧ w.grownBy wr (some p)) ∧ Hid (wr.heap[w.heap.size]? = some (.cells #[.int .i64 0, .int .i64 0, .int .i64 0, .int .i64 0, .bool false] 117 (0, 0)) ∧ IntBlk wr g ((List.range i).map (footNum s.data.toList)) (8 - i))) (fun ii _ => 8 - (intOf ii).toNat)
     case atStart => exact ⟨0, by omega, rfl, ⟨R3.out, G3.out⟩, ⟨F3.out, N0.out⟩⟩
     case round =>
       obtain ⟨i, hi, rfl, HX, HY⟩ := hrel
       by_cases h8 : i < 8
       · have i1 : (i : Int) < 8 := by omega
         have i0 : (0 : Int) ≤ (i : Int) := by omega
         obtain ⟨v, hv⟩ : ∃ v, footNum s.data.toList i = v := ⟨_, rfl⟩
         have HV := Lib.hid hv
         have hfv : fixVal ((s.data.toList.drop (m + 4 * i)).take 4) = v := by rw [← hv]; unfold footNum; rw [HLL.out, HM.out, Nat.add_sub_cancel]
         have NB := Lib.hid (show IntBlk wr g ((List.range i).map (footNum s.data.toList)) ((8 - (i + 1)) + 1) by have := HY.out.2; rwa [show 8 - i = 8 - (i + 1) + 1 by omega] at this)
         clear hv
         go_wp2_with fail
         refine (takeFix_yes p s (m + 4 * i) 4 _ HX.out.1 HS.out (by omega) (by omega) (by omega)).mono ?_
         rintro e w5 ⟨rfl, r5, g5⟩
         rw [hfv]
         have N5 := Lib.hid (NB.out.grown g5 (by omega))
         have R5 := Lib.hid (show RdT 115 w5 p s ((m + 4 * (i + 1) : Nat) : Int) by rw [show m + 4 * (i + 1) = m + 4 * i + 4 by omega]; exact r5)
         have G5 := Lib.hid (HX.out.2.trans g5)
         have F5 := Lib.hid ((g5.block w.heap.size (Array.getElem?_eq_some_iff.1 HY.out.1).1 (fun e => by cases e; omega)).trans HY.out.1)
         obtain ⟨nc, nf⟩ := N5.out.cell
         rw [List.length_map, List.length_range] at nc nf
         clear r5 g5
         go_wp2
         go_roundw
         case rel =>
           refine ⟨i + 1, by omega, by go_num, ⟨(Below.heap_setCell _ _ _ _ (by show p ≠ g; omega)).trans R5.out, grown_own G5.out (by omega) _⟩, ⟨(Below.heap_setCell _ _ _ _ (by show w.heap.size ≠ g; omega)).trans F5.out, ?_⟩⟩
           have := N5.out.set v
           rw [List.length_map, List.length_range] at this
           rw [List.range_succ, List.map_append, List.map_singleton, HV.out]
           exact this
         case measure => simp [intOf]; omega
       · obtain rfl : i = 8 := by omega
         obtain ⟨v0, hv0⟩ : ∃ v, footNum s.data.toList 0 = v := ⟨_, rfl⟩
         obtain ⟨v1, hv1⟩ : ∃ v, footNum s.data.toList 1 = v := ⟨_, rfl⟩
         obtain ⟨v5, hv5⟩ : ∃ v, footNum s.data.toList 5 = v := ⟨_, rfl⟩
         obtain ⟨v6, hv6⟩ : ∃ v, footNum s.data.toList 6 = v := ⟨_, rfl⟩
         obtain ⟨v7, hv7⟩ : ∃ v, footNum s.data.toList 7 = v := ⟨_, rfl⟩
         have HVV := Lib.hid (And.intro hv0 (And.intro hv1 (And.intro hv5 (And.intro hv6 hv7))))
         have at_ : ∀ j v, footNum s.data.toList j = v → j < 8 → wr.cell? ⟨g, j, none⟩ = some (.int .i64 v) := fun j v hj hlt => HY.out.2.at (by rw [List.getElem?_map, List.getElem?_range hlt, Option.map_some, hj])
         have k0 := at_ 0 v0 hv0 (by omega)
         have k1 := at_ 1 v1 hv1 (by omega)
         have k5 := at_ 5 v5 hv5 (by omega)
         have k6 := at_ 6 v6 hv6 (by omega)
         have k7 := at_ 7 v7 hv7 (by omega)
         obtain ⟨pk, hpk⟩ : ∃ b, ((v7 : Int) == 1) = b := ⟨_, rfl⟩
         have HPK := Lib.hid (show decide (v7 = 1) = pk by rw [← hpk, Bool.eq_iff_iff]; simp; omega)
         have FW := Lib.hid ((alloc_old wr (.cells #[.int .i64 v5, .int .i64 v6, .bool pk] 26) (Array.getElem?_eq_some_iff.1 HY.out.1).1).trans HY.out.1)
         obtain ⟨o5, z0, z1, z2, z3, z4⟩ := blk5 FW.out
         unfold One5 at o5
         obtain ⟨b0, b1, b2, b3, b4⟩ := o5
         have hgw : g < wr.heap.size := (Array.getElem?_eq_some_iff.1 HY.out.2).1
         have k0' := (World.cell?_of_block (w := wr) (a := ⟨g, 0, none⟩) (alloc_old wr (.cells #[.int .i64 v5, .int .i64 v6, .bool pk] 26) hgw)).trans k0
         have k1' := (World.cell?_of_block (w := wr) (a := ⟨g, 1, none⟩) (alloc_old wr (.cells #[.int .i64 v5, .int .i64 v6, .bool pk] 26) hgw)).trans k1
         clear k0 k1
         have GW := Lib.hid (HX.out.2.trans (World.grownBy_alloc _ (.cells #[.int .i64 v5, .int .i64 v6, .bool pk] 26) (some p)))
         have RW := Lib.hid (show RdT 115 (wr.alloc (.cells #[.int .i64 v5, .int .i64 v6, .bool pk] 26)) p s ((m + 4 * 8 : Nat) : Int) from (alloc_old _ _ HX.out.1.lt).trans HX.out.1)
         clear hv0 hv1 hv5 hv6 hv7 at_
         go_wp2
         refine bodyPost_ret (res_cell_tmp Tryz.results104 _ _ w.heap.size _ _ _ _ rfl rfl (set5 FW.out _ _ _ _ _) Tryz.underlying117 rfl (by rw [sizeFoot]; rfl)) rfl ?_
         refine ⟨grown_own (grown_own (grown_own (grown_own (grown_own GW.out (Nat.le_refl _) _) (Nat.le_refl _) _) (Nat.le_refl _) _) (Nat.le_refl _) _) (Nat.le_refl _) _, .inr ⟨HEE.out, ?_, ((m + 4 * 8 : Nat) : Int), ?_⟩⟩
         · rw [HVV.out.1, HVV.out.2.1, HVV.out.2.2.1, HVV.out.2.2.2.1, HVV.out.2.2.2.2, HPK.out]
           rfl
         · have hne : p ≠ w.heap.size := by omega
           exact (Below.heap_setCell _ _ _ _ hne).trans ((Below.heap_setCell _ _ _ _ hne).trans ((Below.heap_setCell _ _ _ _ hne).trans ((Below.heap_setCell _ _ _ _ hne).trans ((Below.heap_setCell _ _ _ _ hne).trans RW.out))))
 · refine (has_no p s _ 38 _ R0.out HS.out (by omega)).mono ?_
   rintro e w2 ⟨rfl, k, rfl⟩
   have G2 := Lib.hid (G0.out.trans (grown_drewN _ k (some p)))
   have F2 := Lib.hid (show (w1.drewN k).heap[w.heap.size]? = _ from F0.out)
   have HNE := Lib.hid (show ¬ endsRight s.data.toList from fun h => by have := h.1; rw [HLL.out] at this; omega)
   obtain ⟨w2, hw2⟩ : ∃ W, w1.drewN k = W := ⟨_, rfl⟩
   rw [hw2] at G2 F2 ⊢
   clear hw2
   obtain ⟨o5, z0, z1, z2, z3, z4⟩ := blk5 F2.out
   unfold One5 at o5
   obtain ⟨b0, b1, b2, b3, b4⟩ := o5
   go_wp2
   refine bodyPost_ret (res_cell_tmp Tryz.results104 _ _ w.heap.size _ _ _ _ rfl rfl (set5 F2.out _ _ _ _ _) Tryz.underlying117 rfl (by rw [sizeFoot]; rfl)) rfl ?_
   exact ⟨grown_own (grown_own (grown_own (grown_own (grown_own G2.out (Nat.le_refl _) _) (Nat.le_refl _) _) (Nat.le_refl _) _) (Nat.le_refl _) _) (Nat.le_refl _) _, .inl ⟨HNE.out, _, rfl⟩⟩
end Go.Proofs.YtkomnnijnggbpaaGreatDoor
/- errors.As of an error of a part, asked for as one: what it is, is handed over; of no error nothing. -/
namespace Go.Proofs.YtkomnnijnggbpaaGreatDoor
open Go.RowKit Go.Extern.Stop Go.Stop Go.Extern
set_option linter.unusedVariables false

def ErrLaid (w : World) : Prop := w.cell? ⟨0, 0, none⟩ = some (.iface 169 (.agg #[.pointer (some ⟨2, 78, none⟩)]))
theorem ErrLaid.lt {w : World} (h : ErrLaid w) : 0 < w.heap.size := World.block_lt_of_cell? w _ h
theorem ErrLaid.kept {w w' : World} {row : Option Nat} (h : ErrLaid w) (hg : w.grownBy w' row) (hr : row ≠ some 0) : ErrLaid w' := (World.cell?_of_block (w := w) (hg.block 0 h.lt (fun e => hr e.symm))).trans h
theorem ErrLaid.below {B : Nat} {w w' : World} (h : ErrLaid w) (hb : Below B w w') (hB : 0 < B) : ErrLaid w' := (World.cell?_of_block (w := w) (hb.block 0 hB)).trans h

theorem grown_setRow (w : World) (g : Nat) (cs : Array Value) : w.grownBy (w.setRow g cs) (some g) := ⟨rfl, rfl, rfl, by simp, fun j _ hj => setRow_other w g j cs (fun e => hj (by rw [e]))⟩
theorem as_nil (t : Value) (w : World) : Calls Tryz.prog 63 #[.nilIface, t] w fun e w' => e = .returned (.bool false) ∧ w' = w := by
 go_enter Tryz.func63, Tryz.ntmps63
 go_wp2
 go_ret
 exact ⟨rfl, rfl⟩

theorem as_valueOfP (t : Addr) (w : World) : (ReflectliteValue.unpack (.iface 84 (.pointer (some t)))).run Tryz.prog w
   = .ok (.agg #[.pointer (some ⟨2, 84, none⟩), .pointer (some ⟨w.heap.size, 0, none⟩), .int .u64 150]) (w.alloc (.cells #[.pointer (some t)] 84)) := by kernel_rfl
theorem as_typeP (a : Addr) (w : World) : (ReflectliteValue.methodAny (ReflectliteValue.valueError "reflectlite.Value.Type" 0) (fun t _ _ _ => ReflectliteType.toType t) #[.agg #[.pointer (some ⟨2, 84, none⟩), .pointer (some a), .int .u64 150]]).run Tryz.prog w
   = .ok (.iface 169 (.agg #[.pointer (some ⟨2, 84, none⟩)])) w := by kernel_rfl
theorem as_methodKind (h : Value) (w : World) : (Go.method 338 169 (.agg #[h]) "Kind").run Tryz.prog w = .ok (189, h) w := by kernel_rfl
theorem as_kindP (w : World) : ((ReflectliteType.abiMethod fun t => (fun a : Nat => Value.int IntKind.u8 (a : Int)) <$> Rtype.kind t) #[.pointer (some ⟨2, 84, none⟩)]).run Tryz.prog w = .ok (.int .u8 22) w := by kernel_rfl
theorem as_kindE (w : World) : ((ReflectliteType.abiMethod fun t => (fun a : Nat => Value.int IntKind.u8 (a : Int)) <$> Rtype.kind t) #[.pointer (some ⟨2, 82, none⟩)]).run Tryz.prog w = .ok (.int .u8 25) w := by kernel_rfl
theorem as_partsP (a : Addr) (w : World) : (ReflectliteValue.parts (.agg #[.pointer (some ⟨2, 84, none⟩), .pointer (some a), .int .u64 150])).run Tryz.prog w = .ok (some (84, a, 150)) w := by kernel_rfl
theorem as_isNil (a p : Addr) (W : World) (ha : W.cell? a = some (.pointer (some p))) :
   (ReflectliteValue.method (ReflectliteValue.valueError "reflectlite.Value.IsNil" 0) ReflectliteValue.isNil #[.agg #[.pointer (some ⟨2, 84, none⟩), .pointer (some a), .int .u64 150]]).run Tryz.prog W = .ok (.bool false) W := by
 rw [show ReflectliteValue.method (ReflectliteValue.valueError "reflectlite.Value.IsNil" 0) ReflectliteValue.isNil #[.agg #[.pointer (some ⟨2, 84, none⟩), .pointer (some a), .int .u64 150]] = (ReflectliteValue.parts (.agg #[.pointer (some ⟨2, 84, none⟩), .pointer (some a), .int .u64 150]) >>= _) from rfl]
 simp only [Sem.run_bind, as_partsP, Result.andThen]
 simp [ReflectliteValue.isNil, loadVar, isAgg, underlying, Tryz.underlying84, ha, Result.andThen]
theorem as_methodElem (h : Value) (w : World) : (Go.method 338 169 (.agg #[h]) "Elem").run Tryz.prog w = .ok (199, .agg #[h]) w := by kernel_rfl
theorem as_methodImpl (h : Value) (w : World) : (Go.method 338 169 (.agg #[h]) "Implements").run Tryz.prog w = .ok (200, .agg #[h]) w := by kernel_rfl
theorem as_methodAssign (h : Value) (w : World) : (Go.method 338 169 (.agg #[h]) "AssignableTo").run Tryz.prog w = .ok (197, .agg #[h]) w := by kernel_rfl
theorem as_elem (w : World) : (ReflectliteType.method ReflectliteType.elem #[.agg #[.pointer (some ⟨2, 84, none⟩)]]).run Tryz.prog w = .ok (.iface 169 (.agg #[.pointer (some ⟨2, 82, none⟩)])) w := by kernel_rfl
theorem as_implements (w : World) : (ReflectliteType.relation "Implements" ReflectliteType.implements_ #[.agg #[.pointer (some ⟨2, 82, none⟩)], .iface 169 (.agg #[.pointer (some ⟨2, 78, none⟩)])]).run Tryz.prog w = .ok (.bool true) w := by kernel_rfl
theorem as_typeOf (v : Value) (w : World) : (ReflectliteType.typeOf #[.iface 82 v]).run Tryz.prog w = .ok (.iface 169 (.agg #[.pointer (some ⟨2, 82, none⟩)])) w := by kernel_rfl
theorem as_assignable (w : World) : (ReflectliteType.relation "AssignableTo" ReflectliteType.assignableTo #[.agg #[.pointer (some ⟨2, 82, none⟩)], .iface 169 (.agg #[.pointer (some ⟨2, 82, none⟩)])]).run Tryz.prog w = .ok (.bool true) w := by kernel_rfl
theorem as_valueOfE (n : ByteArray) (k : Int) (w : World) : (ReflectliteValue.unpack (.iface 82 (.agg #[.string n, .int .i64 k]))).run Tryz.prog w
   = .ok (.agg #[.pointer (some ⟨2, 82, none⟩), .pointer (some ⟨w.heap.size, 0, none⟩), .int .u64 153]) (w.alloc (.cells #[.string n, .int .i64 k] 82)) := by kernel_rfl
theorem as_elemOf (w : World) : (Rtype.elem? 84).run Tryz.prog w = .ok (some 82) w := by kernel_rfl
theorem as_mkE (p : Addr) (w : World) : (ReflectliteValue.mk 82 p ReflectliteValue.flagAddr).run Tryz.prog w = .ok (.agg #[.pointer (some ⟨2, 82, none⟩), .pointer (some p), .int .u64 409]) w := by kernel_rfl
theorem as_elemV (a p : Addr) (W : World) (ha : W.cell? a = some (.pointer (some p))) :
   (ReflectliteValue.method (ReflectliteValue.valueError "reflectlite.Value.Elem" 0) ReflectliteValue.elem #[.agg #[.pointer (some ⟨2, 84, none⟩), .pointer (some a), .int .u64 150]]).run Tryz.prog W
     = .ok (.agg #[.pointer (some ⟨2, 82, none⟩), .pointer (some p), .int .u64 409]) W := by
 rw [show ReflectliteValue.method (ReflectliteValue.valueError "reflectlite.Value.Elem" 0) ReflectliteValue.elem #[.agg #[.pointer (some ⟨2, 84, none⟩), .pointer (some a), .int .u64 150]] = (ReflectliteValue.parts (.agg #[.pointer (some ⟨2, 84, none⟩), .pointer (some a), .int .u64 150]) >>= _) from rfl]
 simp only [Sem.run_bind, as_partsP, Result.andThen]
 simp [ReflectliteValue.elem, loadVar, isAgg, underlying, Tryz.underlying84, ha, Result.andThen, as_elemOf, as_mkE]
theorem as_partsA (a : Addr) (w : World) : (ReflectliteValue.parts (.agg #[.pointer (some ⟨2, 82, none⟩), .pointer (some a), .int .u64 409])).run Tryz.prog w = .ok (some (82, a, 409)) w := by kernel_rfl
theorem as_partsE (a : Addr) (w : World) : (ReflectliteValue.parts (.agg #[.pointer (some ⟨2, 82, none⟩), .pointer (some a), .int .u64 153])).run Tryz.prog w = .ok (some (82, a, 153)) w := by kernel_rfl
theorem as_direct (w : World) : (Rtype.directlyAssignable 82 82).run Tryz.prog w = .ok true w := by kernel_rfl
theorem sizeBad : (Tryz.prog.info? 82).map (·.size) = some 2 := by kernel_rfl
theorem as_set (g b : Nat) (n n0 : ByteArray) (k k0 : Int) (W : World) (hb : W.heap[b]? = some (.cells #[.string n, .int .i64 k] 82 (0, 0))) (hg : W.heap[g]? = some (.cells #[.string n0, .int .i64 k0] 82 (0, 0))) :
   (ReflectliteValue.set #[.agg #[.pointer (some ⟨2, 82, none⟩), .pointer (some ⟨g, 0, none⟩), .int .u64 409], .agg #[.pointer (some ⟨2, 82, none⟩), .pointer (some ⟨b, 0, none⟩), .int .u64 153]]).run Tryz.prog W
     = .ok (.tuple #[]) (W.setRow g #[.string n, .int .i64 k]) := by
 have hl := run_loadVar_row (P := Tryz.prog) W b 82 82 #[.string n, .int .i64 k] (0, 0) _ hb Tryz.underlying82 rfl (by rw [sizeBad]; rfl)
 rw [show ReflectliteValue.set #[.agg #[.pointer (some ⟨2, 82, none⟩), .pointer (some ⟨g, 0, none⟩), .int .u64 409], .agg #[.pointer (some ⟨2, 82, none⟩), .pointer (some ⟨b, 0, none⟩), .int .u64 153]] = (ReflectliteValue.parts (.agg #[.pointer (some ⟨2, 82, none⟩), .pointer (some ⟨g, 0, none⟩), .int .u64 409]) >>= _) from rfl]
 have hgl : ∀ (u v : Value) (h1 : (#[u, v] : Array Value).size = 2) (h2 : 1 < 2), (#[u, v] : Array Value).getLit 1 h1 h2 = v := fun _ _ _ _ => rfl
 simp only [Sem.run_bind, as_partsA, Result.andThen, hgl, as_partsE]
 have hsv := run_storeVar_row (P := Tryz.prog) W g 82 82 #[.string n0, .int .i64 k0] #[.string n, .int .i64 k] hg (by rw [sizeBad]; rfl) rfl (by simp [Value.oneCell'])
 simp [ReflectliteValue.flagAddr, hl, Result.andThen, as_direct, hsv]
set_option maxHeartbeats 4000000 in
theorem as_hit (n n0 : ByteArray) (k k0 : Int) (g : Nat) (w : World) (hl : ErrLaid w) (ht : w.heap[g]? = some (.cells #[.string n0, .int .i64 k0] 82 (0, 0))) :
   Calls Tryz.prog 63 #[.iface 82 (.agg #[.string n, .int .i64 k]), .iface 84 (.pointer (some ⟨g, 0, none⟩))] w fun ev w' => ev = .returned (.bool true) ∧ w.grownBy w' (some g) ∧ w'.heap[g]? = some (.cells #[.string n, .int .i64 k] 82 (0, 0)) := by
 have h6 := @run_callFunc_extern Tryz.prog 106 _ (fun args => ReflectliteValue.unpack (args.getD 0 (.tuple #[]))) Tryz.func106 (by kernel_rfl) (by kernel_rfl) (by kernel_rfl) (by kernel_rfl)
 have h7 := @run_callFunc_extern Tryz.prog 107 _ (ReflectliteValue.methodAny (ReflectliteValue.valueError "reflectlite.Value.Type" 0) (fun t _ _ _ => ReflectliteType.toType t)) Tryz.func107 (by kernel_rfl) (by kernel_rfl) (by kernel_rfl) (by kernel_rfl)
 have h8 := @run_callFunc_extern Tryz.prog 108 _ (ReflectliteValue.method (ReflectliteValue.valueError "reflectlite.Value.IsNil" 0) ReflectliteValue.isNil) Tryz.func108 (by kernel_rfl) (by kernel_rfl) (by kernel_rfl) (by kernel_rfl)
 have h27 := @run_callFunc_extern Tryz.prog 189 _ (ReflectliteType.abiMethod fun t => do pure (.int .u8 (← Rtype.kind t))) Tryz.func189 (by kernel_rfl) (by kernel_rfl) (by kernel_rfl) (by kernel_rfl)
 have h37 := @run_callFunc_extern Tryz.prog 199 _ (ReflectliteType.method ReflectliteType.elem) Tryz.func199 (by kernel_rfl) (by kernel_rfl) (by kernel_rfl) (by kernel_rfl)
 have h38 := @run_callFunc_extern Tryz.prog 200 _ (ReflectliteType.relation "Implements" ReflectliteType.implements_) Tryz.func200 (by kernel_rfl) (by kernel_rfl) (by kernel_rfl) (by kernel_rfl)
 have h10 := @run_callFunc_extern Tryz.prog 139 _ ReflectliteType.typeOf Tryz.func139 (by kernel_rfl) (by kernel_rfl) (by kernel_rfl) (by kernel_rfl)
 have h35 := @run_callFunc_extern Tryz.prog 197 _ (ReflectliteType.relation "AssignableTo" ReflectliteType.assignableTo) Tryz.func197 (by kernel_rfl) (by kernel_rfl) (by kernel_rfl) (by kernel_rfl)
 have h11 := @run_callFunc_extern Tryz.prog 140 _ (ReflectliteValue.method (ReflectliteValue.valueError "reflectlite.Value.Elem" 0) ReflectliteValue.elem) Tryz.func140 (by kernel_rfl) (by kernel_rfl) (by kernel_rfl) (by kernel_rfl)
 have h12 := @run_callFunc_extern Tryz.prog 141 _ ReflectliteValue.set Tryz.func141 (by kernel_rfl) (by kernel_rfl) (by kernel_rfl) (by kernel_rfl)
 have tO := as_typeOf
 have mA := as_methodAssign
 have aE := as_assignable
 have vE := as_valueOfE
 have f6 := as_valueOfP
 have f7 := as_typeP
 have mK := as_methodKind
 have mE := as_methodElem
 have mI := as_methodImpl
 have kP := as_kindP
 have kE := as_kindE
 have eP := as_elem
 have iE := as_implements
 obtain ⟨o1, ho1⟩ : ∃ o : Obj, Obj.cells #[Value.pointer (some ⟨g, 0, none⟩)] 84 = o := ⟨_, rfl⟩
 obtain ⟨o2, ho2⟩ : ∃ o : Obj, Obj.cells #[Value.pointer (some ⟨2, 84, none⟩), Value.pointer (some ⟨w.heap.size, 0, none⟩), Value.int .u64 150] 125 = o := ⟨_, rfl⟩
 have htl : g < w.heap.size := (Array.getElem?_eq_some_iff.1 ht).1
 have hl0 := hl.lt
 have n8 := as_isNil ⟨w.heap.size, 0, none⟩ ⟨g, 0, none⟩ ((w.alloc o1).alloc o2) (by rw [← ho1, World.cell?_alloc_lt _ _ _ (by simp)]; simp)
 have hg2 : ((w.alloc o1).alloc o2).cell? ⟨0, 0, none⟩ = some (.iface 169 (.agg #[.pointer (some ⟨2, 78, none⟩)])) := by
   rw [World.cell?_alloc_lt _ _ ⟨0, 0, none⟩ (by simp), World.cell?_alloc_lt _ _ ⟨0, 0, none⟩ hl0]; exact hl
 have el := as_elemV ⟨w.heap.size, 0, none⟩ ⟨g, 0, none⟩ (((w.alloc o1).alloc o2).alloc o2) (by rw [World.cell?_alloc_lt _ _ ⟨w.heap.size, 0, none⟩ (by simp; omega), World.cell?_alloc_lt _ _ _ (by simp), ← ho1]; simp)
 have hb4 : ((((w.alloc o1).alloc o2).alloc o2).alloc (.cells #[.string n, .int .i64 k] 82)).heap[w.heap.size + 1 + 1 + 1]? = some (.cells #[.string n, .int .i64 k] 82 (0, 0)) := by
   have := alloc_at (((w.alloc o1).alloc o2).alloc o2) (.cells #[.string n, .int .i64 k] 82)
   simpa using this
 have hg4 : ((((w.alloc o1).alloc o2).alloc o2).alloc (.cells #[.string n, .int .i64 k] 82)).heap[g]? = some (.cells #[.string n0, .int .i64 k0] 82 (0, 0)) :=
   (alloc_old _ _ (by simp; omega)).trans ((alloc_old _ _ (by simp; omega)).trans ((alloc_old _ _ (by simp; omega)).trans ((alloc_old w o1 htl).trans ht)))
 have st := as_set g (w.heap.size + 1 + 1 + 1) n n0 k k0 _ hb4 hg4
 have HG := Lib.hid hg4
 have GB := Lib.hid ((((World.grownBy_alloc w o1 (some g)).trans (World.grownBy_alloc _ o2 (some g))).trans (World.grownBy_alloc _ o2 (some g))).trans (World.grownBy_alloc _ (.cells #[.string n, .int .i64 k] 82) (some g)))
 subst ho1 ho2
 clear hb4 hg4 ht
 go_enter Tryz.func63, Tryz.ntmps63
 go_wp2
 refine wp_loop_rounds 1 ?_
 rw [rounds_succ]
 go_wp2
 go_ret
 exact ⟨rfl, GB.out.trans (grown_setRow _ _ _), setRow_heap _ _ _ _ _ _ HG.out⟩
end Go.Proofs.YtkomnnijnggbpaaGreatDoor
/- The library's variable that errors.As reads: what the condition gives a walk, and a world that meets it. -/
namespace Go.Proofs.YtkomnnijnggbpaaGreatDoor
open Go.ChangeShapes Go.WideShapes Go.RowKit
set_option linter.unusedVariables false

theorem laid_et : Tryz.prog.globalNamed "errors.errorType" = some 0 := by kernel_rfl
theorem laid_rt : (Tryz.prog.cutTypes.find? (·.1 == "internal/reflectlite.rtype")).map (·.2) = some 169 := by kernel_rfl
theorem laid_row : ((List.range 238).filter fun t => Tryz.prog.rowNamed t [101, 114, 114, 111, 114]) = [78] := by kernel_rfl
theorem laid_size : Tryz.prog.types.size = 238 := by kernel_rfl
theorem err_laid {W : World} (h : laidMetH Tryz.prog [("errors.errorType", Rows.laid_errors_errorType)] W) : ErrLaid W := by
 have h' : laidMet Tryz.prog [] W ∧ handlesMet Tryz.prog [("errors.errorType", Rows.laid_errors_errorType)] W := h
 obtain ⟨name, u, ty, e1, e2, e3, e4, e5⟩ := h'.2 _ (List.mem_singleton.2 rfl)
 have en : name = [101, 114, 114, 111, 114] := (Option.some.inj e1).symm
 subst en
 obtain rfl := Option.some.inj (laid_rt.symm.trans e2)
 have hm : ty ∈ (List.range 238).filter fun t => Tryz.prog.rowNamed t [101, 114, 114, 111, 114] := List.mem_filter.2 ⟨List.mem_range.2 (by rw [← laid_size]; exact e3), e4⟩
 rw [laid_row] at hm
 obtain rfl := List.mem_singleton.1 hm
 have hh : typeHandle Tryz.prog 78 = .pointer (some ⟨2, 78, none⟩) := by kernel_rfl
 rw [hh] at e5
 unfold ErrLaid
 simpa using World.var?_cell laid_et e5 0
noncomputable def errWorld (os : Os) (args : Array Value) : World :=
 { World.holding Tryz.prog os ⟨#[], #[], []⟩ with heap := (World.holding Tryz.prog os ⟨#[], #[], []⟩).heap.modify 0 fun
     | .cells _ t frozen => .cells #[.iface 169 (.agg #[.pointer (some ⟨2, 78, none⟩)])] t frozen
     | o => o }
end Go.Proofs.YtkomnnijnggbpaaGreatDoor
