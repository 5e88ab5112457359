/- Contract of the program's look for the longest copy. -/
import Derived.Test.YtkomnnijnggbpaaCopy
import Derived.Test.YtkomnnijnggbpaaZ0
import Derived.BigQuiet
import Derived.RegionTactic
import Derived.ChangeAlike
import Derived.Scope
import Derived.WalkMore
namespace Go.Proofs.Ytkomnnijnggbpaa
open Go.RowKit
set_option linter.unusedVariables false

theorem results_cell_bool {P : Program} {fn : Func} {p q : Tmp} {ty : TypeId} {b : Bool} (h : fn.results = #[.cell p ty, .tmp q]) (tmps : Array Value) (w : World) (g : Nat) (t : TypeId) (cs : Array Value) (fr : Nat × Nat) (d : TypeDesc)
   (hp : tmps.getD p undef = .pointer (some ⟨g, 0, none⟩)) (hq : tmps.getD q undef = .bool b) (hg : w.heap[g]? = some (.cells cs t fr))
   (hu : P.underlying ty = some d) (hd : (match d with | .struct _ | .array _ _ => true | _ => false) = true) (hi : (P.info? ty).map (·.size) = some cs.size) :
   (results fn tmps).run P w = .ok (.tuple #[.agg cs, .bool b]) w := by
 have hp' : tmps[p]?.getD undef = .pointer (some ⟨g, 0, none⟩) := by simpa using hp
 have hq' : tmps[q]?.getD undef = .bool b := by simpa using hq
 simp [results, h, hp', hq', asAddr, run_loadVar_row w g t ty cs fr d hg hu hd hi]

theorem rest_list (s : ByteArray) (i : Nat) (h : i < s.size) : (s.extract i (min (i + 67) s.size)).data.toList = (s.data.toList.drop i).take 67 := by
 simp only [ByteArray.data_extract, Array.toList_extract, List.extract_eq_take_drop]
 by_cases h1 : i + 67 ≤ s.size
 · rw [show min (i + 67) s.size - i = 67 by omega]
 · rw [show min (i + 67) s.size - i = s.size - i by omega, List.take_of_length_le (by simp), List.take_of_length_le (by simp; omega)]
theorem from_list (s : ByteArray) (i : Nat) : (s.extract i s.size).data.toList = s.data.toList.drop i := by
 simp only [ByteArray.data_extract, Array.toList_extract, List.extract_eq_take_drop]
 rw [List.take_of_length_le (by simp)]

def LongOut (w : World) (c : Nat × Nat) (e : Ending) (w' : World) : Prop := e = .returned (.tuple #[copyV c, .bool (decide (0 < c.1))]) ∧ Below w.heap.size w w'

set_option maxHeartbeats 2000000 in
set_option maxRecDepth 100000 in
theorem longestCopy (s : ByteArray) (i F0 : Nat) (w : World) (hs : s.size ≤ 2000) (hi : i < s.size) (h1 : 1 ≤ F0) (hF : F0 ≤ i) (hn : ∀ p, i - F0 < p → p < i → four s.data.toList p ≠ four s.data.toList i) :
   Calls Try.prog 89 #[.string s, .int .i64 i, .int .i64 F0] w (LongOut w (copyAt s.data.toList i)) := by
 have hll : s.data.toList.length = s.size := by simp
 have HLL := Lib.hid hll
 have BN := Lib.hid (best_new w)
 have HB0 := Lib.hid (show ∀ f, f < F0 → bestTo s.data.toList i f = (0, 0) from fun f hf => best_near _ i f (by omega) (fun p h1 h2 => hn p (by omega) h2))
 clear hll hn
 obtain ⟨R, hR⟩ : ∃ R, s.extract i (min (i + 67) s.size) = R := ⟨_, rfl⟩
 have HRL := Lib.hid (show R.data.toList = (s.data.toList.drop i).take 67 by rw [← hR]; exact rest_list s i hi)
 have hRs : R.size = min 67 (s.size - i) := by rw [← hR, ByteArray.size_extract]; omega
 have HRS := Lib.hid hRs
 have hR67 : R.size ≤ 67 := by omega
 have hx : (i + 67 ≤ s.size ∧ s.extract i (i + 67) = R) ∨ (s.size < i + 67 ∧ s.extract i s.size = R) := by
   by_cases h : i + 67 ≤ s.size
   · exact .inl ⟨h, by rw [← hR, show min (i + 67) s.size = i + 67 by omega]⟩
   · exact .inr ⟨by omega, by rw [← hR, show min (i + 67) s.size = s.size by omega]⟩
 clear hR hRs
 have hx2 : (¬ (s.size : Int) < (i : Int) + 67 ∧ s.extract i (i + 67) = R) ∨ ((s.size : Int) < (i : Int) + 67 ∧ s.extract i s.size = R) := by
   rcases hx with h | h
   · exact .inl ⟨by omega, h.2⟩
   · exact .inr ⟨by omega, h.2⟩
 clear hx
 have h255i : (255 : Int) < (i : Int) ∨ ¬ (255 : Int) < (i : Int) := by omega
 rcases hx2 with ⟨h67, hx⟩ | ⟨h67, hx⟩ <;> rcases h255i with h255i | h255i
 all_goals
   go_enter Try.func89, Try.ntmps89
   go_wp2_with fail
   go_step3
   go_wp2_with fail
   go_step3
   go_wp2_with fail
   try rw [hx]
   clear h67 hx
   go_loopw [10] (fun fr wr => ∃ F : Nat, F0 ≤ F ∧ F ≤ i + 1 ∧ (F = F0 ∨ F ≤ 256) ∧ fr = .int .i64 F ∧ BestAt w wr (bestTo s.data.toList i (F - 1))) (fun fr _ => i + 1 - (intOf fr).toNat)
   case atStart => exact ⟨F0, by omega, by omega, Or.inl rfl, rfl, by rw [HB0.out _ (by omega)]; exact BN.out⟩
   case round =>
     clear BN
     obtain ⟨F, hF0, hF1, hF2, rfl, t⟩ := hrel
     have TT := Lib.hid t
     obtain ⟨c, hc⟩ : ∃ c, bestTo s.data.toList i (F - 1) = c := ⟨_, rfl⟩
     rw [hc] at TT t
     have HC := Lib.hid hc
     clear hc
     by_cases hin : F ≤ 255 ∧ F ≤ i
     · obtain ⟨h255, hfi⟩ := hin
       have HBT := Lib.hid (show bestTo s.data.toList i F = if 4 ≤ runLen s.data.toList i F ∧ c.1 < runLen s.data.toList i F then (runLen s.data.toList i F, F) else c from by
         obtain ⟨g, rfl⟩ : ∃ g, F = g + 1 := ⟨F - 1, by omega⟩
         rw [bestTo, show bestTo s.data.toList i g = c from HC.out])
       clear hF2
       obtain ⟨c0, c1, c2, fz, fz2⟩ := t.cells
       have g0 := fz2 0
       have g1 := fz2 1
       have g2 := fz2 2
       have f0 := fz 0
       have f1 := fz 1
       have f2 := fz 2
       obtain ⟨b0, b1, b2⟩ := t.old
       clear t fz fz2
       have i1 : (F : Int) ≤ (i : Int) := by omega
       have i2 : (i : Int) - (F : Int) ≤ (s.size : Int) := by omega
       have i3 : ((i : Int) - (F : Int)).toNat = i - F := by omega
       go_wp2_with fail
       refine (implShared _ _ _ (by rw [ByteArray.size_extract]; unfold maxLen; omega) (by unfold maxLen; omega)).mono ?_
       rw [from_list, HRL.out, shared_run _ _ _ (by omega) hfi (by rw [HLL.out]; omega)]
       rintro e w1 ⟨rfl, d, rfl⟩
       obtain ⟨n, hn⟩ : ∃ n, runLen s.data.toList i F = n := ⟨_, rfl⟩
       have hnR : n ≤ R.size := by
         have h1 := runLen_le s.data.toList i F
         have h2 := runLen_in s.data.toList i F (by rw [HLL.out]; omega)
         rw [HLL.out] at h2
         rw [HRS.out, ← hn]; omega
       rw [hn] at HBT ⊢
       have HN := Lib.hid hn
       clear hn
       by_cases h4 : 4 ≤ n
       · have d4 : decide ((n : Int) < 4) = false := by simp; omega
         by_cases hb : c.1 < n
         · have HE := Lib.hid (show bestTo s.data.toList i F = (n, F) by rw [HBT.out, if_pos ⟨h4, hb⟩])
           by_cases hfull : n = R.size
           · have e1 : ((n : Int) == (R.size : Int)) = true := by simp; omega
             go_wp2_with fail
             have t := TT.out.put d R.size F
             have HCO := Lib.hid (show copyAt s.data.toList i = (R.size, F) by
               rw [hfull] at HE
               have h := best_full s.data.toList i (by rw [HLL.out]; omega) F (by rw [HE.out, HLL.out, ← HRS.out]) (min 255 i - F)
               unfold copyAt
               rw [show min 255 i = F + (min 255 i - F) by omega, h, HE.out])
             clear c0 c1 c2 g0 g1 g2 f0 f1 f2 b0 b1 b2
             generalize (((wr.drewN d).setCell ⟨w.heap.size + 1, 0, none⟩ (.string ⟨#[]⟩)).setCell ⟨w.heap.size + 1, 1, none⟩ (.int .i64 R.size)).setCell ⟨w.heap.size + 1, 2, none⟩ (.int .i64 F) = W2 at t ⊢
             obtain ⟨c0, c1, c2, fz, fz2⟩ := t.cells
             have g0 := fz2 0
             have g1 := fz2 1
             have g2 := fz2 2
             obtain ⟨b0, b1, b2⟩ := t.old
             have T := Lib.hid t
             clear t fz fz2
             go_region
             all_goals
               go_wp2
               try rw [Exit.noGoto_ret]
               refine bodyPost_ret (v := .tuple #[copyV (R.size, F), .bool (decide (0 < (R.size, F).1))]) (results_cell_bool Try.results89 _ _ w.heap.size _ #[.string ⟨#[]⟩, .int .i64 (R.size, F).1, .int .i64 (R.size, F).2] _ _ rfl (by first | rfl | simp) (T.out.out _ _ _) Try.underlying103 rfl (by rw [sizeTok]; rfl)) rfl ⟨by rw [HCO.out], ?_⟩
               exact (((T.out.below.setCell (by simp) _).setCell (by simp) _).setCell (by simp) _).trans (below_draws 1)
           · have e1 : ((n : Int) == (R.size : Int)) = false := by simp; omega
             go_wp2_with fail
             go_roundw
             case rel => exact ⟨F + 1, by omega, by omega, .inr (by omega), by go_num, by rw [show F + 1 - 1 = F by omega, HE.out]; exact TT.out.put _ n F⟩
             case measure => simp [intOf]; omega
         · have HE := Lib.hid (show bestTo s.data.toList i F = c by rw [HBT.out, if_neg (fun h => hb h.2)])
           go_wp2
           go_roundw
           case rel => exact ⟨F + 1, by omega, by omega, .inr (by omega), by go_num, by rw [show F + 1 - 1 = F by omega, HE.out]; exact TT.out.drewN _⟩
           case measure => simp [intOf]; omega
       · have d4 : decide ((n : Int) < 4) = true := by simp; omega
         have HE := Lib.hid (show bestTo s.data.toList i F = c by rw [HBT.out, if_neg (fun h => h4 h.1)])
         go_wp2
         go_roundw
         case rel => exact ⟨F + 1, by omega, by omega, .inr (by omega), by go_num, by rw [show F + 1 - 1 = F by omega, HE.out]; exact TT.out.drewN _⟩
         case measure => simp [intOf]; omega
     · have hin' : ¬ (F : Int) ≤ (if (255 : Int) < (i : Int) then 255 else (i : Int)) := by split <;> omega
       have HCO := Lib.hid (show copyAt s.data.toList i = c by
         unfold copyAt
         rcases hF2 with rfl | h
         · by_cases h3 : min 255 i < F
           · rw [HB0.out _ h3, ← HC.out, HB0.out _ (by omega)]
           · exact absurd ⟨by omega, by omega⟩ hin
         · rw [← HC.out]; congr 1; omega)
       clear hin
       go_wp2_with fail
       obtain ⟨c0, c1, c2, fz, fz2⟩ := t.cells
       have g0 := fz2 0
       have g1 := fz2 1
       have g2 := fz2 2
       obtain ⟨b0, b1, b2⟩ := t.old
       have T := Lib.hid t
       clear t fz fz2
       go_region
       all_goals
         go_wp2
         try rw [Exit.noGoto_ret]
         refine bodyPost_ret (v := .tuple #[copyV c, .bool (decide (0 < c.1))]) (results_cell_bool Try.results89 _ _ w.heap.size _ #[.string ⟨#[]⟩, .int .i64 c.1, .int .i64 c.2] _ _ rfl (by first | rfl | simp) (T.out.out _ _ _) Try.underlying103 rfl (by rw [sizeTok]; rfl)) rfl ⟨by rw [HCO.out], ?_⟩
         exact (((T.out.below.setCell (by simp) _).setCell (by simp) _).setCell (by simp) _).trans (below_draws 1)
end Go.Proofs.Ytkomnnijnggbpaa
