/- The program's takeRecord: a record counts where it needs that same text again. -/
import Derived.Test.YtjcgbpjgoacdjaaTakeJoinedI
import Derived.Test.YtjcgbpjgoacdjaaZ8
import Derived.Test.YtjcgbpjgoacdjaaZ0
import Derived.StillTailTactics
import Derived.Deep.CutRange
namespace Go.Proofs.Ytjcgbpjgoacdjaa
open Go.RowKit
set_option linter.unusedVariables false

def RecIs (w : World) (p : Nat) (s : ByteArray) (at_ : Nat) (e : Ending) (w' : World) : Prop :=
 ∃ (T : ByteArray) (ok : Bool) (q : Nat), e = .returned (.tuple #[.string T, .bool ok]) ∧ RdAt w' p s q ∧ w.grownBy w' (some p) ∧
   (ok = true → T.size ≤ 300 ∧ q ≤ s.size ∧ q = at_ + (putRec at_ true T.data.toList).length ∧ s.data.toList.drop at_ = putRec at_ true T.data.toList ++ s.data.toList.drop q) ∧
   (ok = false → ∀ r y, r.length ≤ 300 → s.data.toList.drop at_ ≠ putRec at_ true r ++ y)
set_option maxHeartbeats 4000000 in
set_option maxRecDepth 100000 in
theorem takeRecord_at (p : Nat) (s : ByteArray) (at_ : Nat) (w : World) (h : RdAt w p s at_) (hs : s.size ≤ 1000000000000000) (hq : at_ ≤ s.size) :
   Calls Try.prog 48 #[.pointer (some ⟨p, 0, none⟩)] w (RecIs w p s at_) := by
 have HH := Lib.hid h
 have HL := Lib.hid (show s.data.toList.length = s.size by simp)
 obtain ⟨pd, hpd⟩ : ∃ x, padAt at_ = x := ⟨_, rfl⟩
 have hp6 : pd ≤ 6 := by rw [← hpd]; exact pad_le at_
 have HPD := Lib.hid hpd
 have HG := Lib.hid (show ∀ W' : World, Calls Try.prog 63 #[.int .i64 at_] W' fun e w' => e = .returned (.int .i64 (pd : Nat)) ∧ w' = W' from fun W' => by rw [← hpd]; exact gapAt_at at_ (by omega) W')
 obtain ⟨c0, c1, f1⟩ := h.cells
 have hw1 : IntKind.i64.wrap ((at_ : Int) + (pd : Int)) = (at_ : Int) + (pd : Int) := IntWalk.i64_in _ (by omega)
 clear h hpd
 go_enter Try.func48, Try.ntmps48
 go_wp2_with fail
 refine wp_region_still_tail 9 (by kernel_rfl) (by kernel_rfl) ?_
 simp only [List.take_succ_cons, List.take_zero, List.drop_succ_cons, List.drop_zero]
 iterate 5 still_step
 still_call (HG.out _)
 iterate 3 still_step
 refine wpStill_nil ?_
 change wpList _ _ _ _ _ w.drew
 have R1 := Lib.hid (show RdAt (w.drew.setCell ⟨p, 1, none⟩ (.int .i64 ((at_ : Int) + (pd : Int)))) p s (at_ + pd : Nat) from (HH.out.drewN 1).set _)
 have G1 := Lib.hid (show w.grownBy (w.drew.setCell ⟨p, 1, none⟩ (.int .i64 ((at_ : Int) + (pd : Int)))) (some p) from (grown_drewN w 1 (some p)).trans (grown_set _ _ _ _))
 go_wp2_with fail
 refine (takeJoined_at p s at_ (at_ + pd) _ R1.out hs (by omega) (by rw [HPD.out])).mono ?_
 rintro e w3 ⟨T, ok, q', rfl, hq1, hq2, r3, g3, hj⟩
 have R3 := Lib.hid r3
 have G3 := Lib.hid (G1.out.trans g3)
 have HJ := Lib.hid hj
 clear r3 g3 hj c0 c1 f1
 cases ok
 · have HNO := Lib.hid (show ∀ r y, r.length ≤ 300 → s.data.toList.drop at_ ≠ putRec at_ true r ++ y from fun r y hr e => by
     have := (HJ.out.2 r y hr e).1
     cases this)
   go_wp2_with fail
   go_quiet (fail)
   go_wp2
   go_ret2
   exact ⟨⟨#[]⟩, false, q', rfl, R3.out.drewN _, G3.out.trans (grown_drewN _ _ _), (fun h => by cases h), fun _ => HNO.out⟩
 · obtain ⟨hT3, hq3⟩ := HJ.out.1 rfl
   rw [HL.out] at hq3
   have j0 : (0 : Int) ≤ (at_ : Int) := by omega
   have j1 : (at_ : Int) ≤ (q' : Int) := by omega
   have j2 : (q' : Int) ≤ (s.size : Int) := by omega
   have HQ := Lib.hid (show at_ ≤ q' by omega)
   go_wp2_with fail
   refine wp_region_held_drew (S := (fun w' => RdAt w' p s (q' : Nat) ∧ w.grownBy w' (some p))) (by kernel_rfl) ⟨R3.out, G3.out.trans (grown_drewN _ 1 _)⟩ (fun hHeld => ?_)
   refine tk 0 (some 25) ?_ ?hy hHeld ?_
   case hy => (intro w' hS; clear hS; go_simp <;> with_reducible rfl)
   simp only [Act.put, sA, sB, sC]
   refine tk 1 (some 26) ?_ ?hy hHeld ?_
   case hy => (intro w' hS; clear hS; go_simp <;> with_reducible rfl)
   simp only [Act.put, sA, sB, sC]
   refine tk 2 (some 27) ?_ ?hy hHeld ?_
   case hy => (intro w' hS; clear hS; go_simp <;> with_reducible rfl)
   simp only [Act.put, sA, sB, sC]
   refine tk 3 (some 28) ?_ ?hy hHeld ?_
   case hy => (intro w' hS; clear hS; go_simp <;> with_reducible rfl)
   simp only [Act.put, sA, sB, sC]
   refine tk 4 (some 29) ?_ ?hy hHeld ?_
   case hy => (intro w' hS; clear hS; go_simp <;> with_reducible rfl)
   simp only [Act.put, sA, sB, sC]
   refine tk 6 (some 31) ?_ ?hy hHeld ?_
   case hy => (intro w' hS; clear hS; go_simp <;> with_reducible rfl)
   simp only [Act.put, sA, sB, sC]
   refine tk 7 (some 32) ?_ ?hy hHeld ?_
   case hy => (intro w' hS; clear hS; go_simp <;> with_reducible rfl)
   simp only [Act.put, sA, sB, sC]
   refine tk 8 (some 33) ?_ ?hy hHeld ?_
   case hy => (intro w' hS; clear hS; go_simp <;> with_reducible rfl)
   simp only [Act.put, sA, sB, sC]
   refine tk 9 (some 34) ?_ ?hy hHeld ?_
   case hy => (intro w' hS; have h0 := hS.1.cells.1; have h1 := hS.1.cells.2.1; clear hS; go_simp <;> with_reducible rfl)
   simp only [Act.put, sA, sB, sC]
   refine tk 10 (some 35) ?_ ?hy hHeld ?_
   case hy => (intro w' hS; clear hS; go_simp <;> with_reducible rfl)
   simp only [Act.put, sA, sB, sC]
   refine tk 11 (some 36) ?_ ?hy hHeld ?_
   case hy => (intro w' hS; clear hS; go_simp <;> with_reducible rfl)
   simp only [Act.put, sA, sB, sC]
   refine tk 12 (some 37) ?_ ?hy hHeld ?_
   case hy => (intro w' hS; clear hS; go_simp <;> with_reducible rfl)
   simp only [Act.put, sA, sB, sC]
   refine tk 13 (some 38) ?_ ?hy hHeld ?_
   case hy => (intro w' hS; clear hS; go_simp <;> with_reducible rfl)
   simp only [Act.put, sA, sB, sC]
   refine tk 14 (some 39) ?_ ?hy hHeld ?_
   case hy => (intro w' hS; have h0 := hS.1.cells.1; have h1 := hS.1.cells.2.1; clear hS; go_simp <;> with_reducible rfl)
   simp only [Act.put, sA, sB, sC]
   refine tk 15 (some 40) ?_ ?hy hHeld ?_
   case hy => (intro w' hS; clear hS; go_simp <;> with_reducible rfl)
   simp only [Act.put, sA, sB, sC]
   refine wpAnyH_ready (rs := [5]) (by kernel_rfl) (by simp) ?_
   refine AllReadyH.cons rfl (fun K hK => ?_) AllReadyH.nil
   go_simp
   refine (logged_at T at_ hT3 (by omega) _).mono ?_
   intro e w4 h4
   obtain ⟨F, hF, hFs, rfl, b4⟩ := h4.text
   have R4 := Lib.hid (rd_under hHeld.1 b4)
   have G4 := Lib.hid (grown_more hHeld.2 b4)
   obtain ⟨cb, hcb⟩ : ∃ b, (F.toList == (s.extract at_ q').toList) = b := ⟨_, rfl⟩
   have HCB := Lib.hid (show cb = true ↔ putRec at_ true T.data.toList = (s.data.toList.drop at_).take (q' - at_) by
     rw [← hcb, beq_iff_eq, ByteArray.toList_eq, ByteArray.toList_eq, hF, show q' = at_ + (q' - at_) by omega, cut_text, show at_ + (q' - at_) - at_ = q' - at_ by omega])
   clear h4 hF hFs b4
   go_wp2_with fail
   refine hK.out _ _ ⟨R4.out, G4.out⟩ (fun hHeld => ?_)
   clear hK K
   refine tk 16 (some 41) ?_ ?hy hHeld ?_
   case hy => (intro w' hS; clear hS; go_simp <;> with_reducible rfl)
   simp only [Act.put, sA, sB, sC]
   refine tk 17 (some 42) ?_ ?hy hHeld ?_
   case hy => (intro w' hS; clear hS; go_simp <;> with_reducible rfl)
   simp only [Act.put, sA, sB, sC]
   refine wpAnyH_done (by kernel_rfl) ?_ _
   clear hHeld
   cases cb
   · have HNO := Lib.hid (show ∀ r y, r.length ≤ 300 → s.data.toList.drop at_ ≠ putRec at_ true r ++ y from fun r y hr e => by
       obtain ⟨_, h1, h2⟩ := HJ.out.2 r y hr e
       have h3 := HCB.out.2 (by rw [e, h1, h2, Nat.add_sub_cancel_left, List.take_left])
       cases h3)
     go_wp2
     go_ret2
     exact ⟨⟨#[]⟩, false, q', rfl, R4.out, G4.out, (fun h => by cases h), fun _ => HNO.out⟩
   · have HY := Lib.hid (show q' = at_ + (putRec at_ true T.data.toList).length ∧ s.data.toList.drop at_ = putRec at_ true T.data.toList ++ s.data.toList.drop q' by
       have h1 := HCB.out.1 rfl
       have h2 := HQ.out
       have h3 := HL.out
       refine ⟨?_, ?_⟩
       · rw [h1, List.length_take, List.length_drop]
         omega
       · rw [h1, show s.data.toList.drop q' = (s.data.toList.drop at_).drop (q' - at_) by rw [List.drop_drop]; congr 1; omega, List.take_append_drop])
     go_wp2
     go_ret2
     exact ⟨T, true, q', rfl, R4.out, G4.out, fun _ => ⟨hT3, hq3, HY.out⟩, fun h => by cases h⟩
end Go.Proofs.Ytjcgbpjgoacdjaa
