/- Contract of the model's look for a copy. -/
import Derived.Test.YtkomnnijnggbpaaProg
import Derived.Test.YtkomnnijnggbpaaZ0
import Derived.Laws.Rows
import Derived.Laws.CopyOwn
namespace Go.Proofs.Ytkomnnijnggbpaa
open Go.RowKit
set_option linter.unusedVariables false

def copyV (c : Nat × Nat) : Value := .agg #[.string ⟨#[]⟩, .int .i64 c.1, .int .i64 c.2]

structure BestAt (w wr : World) (c : Nat × Nat) : Prop where
 first : wr.heap[w.heap.size]? = some (.cells #[.string ⟨#[]⟩, .int .i64 0, .int .i64 0] 103 (0, 0))
 block : wr.heap[w.heap.size + 1]? = some (.cells #[.string ⟨#[]⟩, .int .i64 c.1, .int .i64 c.2] 103 (0, 0))
 below : Below w.heap.size w wr

theorem BestAt.drewN {w wr : World} {c : Nat × Nat} (t : BestAt w wr c) (n : Nat) : BestAt w (wr.drewN n) c := ⟨t.first, t.block, t.below.trans (below_draws n)⟩
theorem BestAt.cells {w wr : World} {c : Nat × Nat} (t : BestAt w wr c) : wr.cell? ⟨w.heap.size + 1, 0, none⟩ = some (.string ⟨#[]⟩) ∧ wr.cell? ⟨w.heap.size + 1, 1, none⟩ = some (.int .i64 c.1) ∧ wr.cell? ⟨w.heap.size + 1, 2, none⟩ = some (.int .i64 c.2) ∧ (∀ j, wr.frozen? ⟨w.heap.size + 1, j, none⟩ = false) ∧ (∀ j, wr.frozen? ⟨w.heap.size, j, none⟩ = false) := by
 have hb := t.block
 have hf := t.first
 refine ⟨?_, ?_, ?_, fun j => ?_, fun j => ?_⟩ <;> simp [World.cell?, World.frozen?, hb, hf]
theorem BestAt.old {w wr : World} {c : Nat × Nat} (t : BestAt w wr c) : wr.cell? ⟨w.heap.size, 0, none⟩ = some (.string ⟨#[]⟩) ∧ wr.cell? ⟨w.heap.size, 1, none⟩ = some (.int .i64 0) ∧ wr.cell? ⟨w.heap.size, 2, none⟩ = some (.int .i64 0) := by
 have hf := t.first
 refine ⟨?_, ?_, ?_⟩ <;> simp [World.cell?, hf]
theorem BestAt.put {w wr : World} {c : Nat × Nat} (t : BestAt w wr c) (m : Nat) (n F : Nat) : BestAt w ((((wr.drewN m).setCell ⟨w.heap.size + 1, 0, none⟩ (.string ⟨#[]⟩)).setCell ⟨w.heap.size + 1, 1, none⟩ (.int .i64 n)).setCell ⟨w.heap.size + 1, 2, none⟩ (.int .i64 F)) (n, F) := by
 refine ⟨?_, ?_, ((((t.below.trans (below_draws m)).setCell (by simp) _).setCell (by simp) _).setCell (by simp) _)⟩
 · rw [Below.heap_setCell _ _ _ _ (by simp), Below.heap_setCell _ _ _ _ (by simp), Below.heap_setCell _ _ _ _ (by simp)]
   exact t.first
 · rw [set_block _ (set_block _ (set_block (w := wr.drewN m) _ t.block))]
   rfl
theorem BestAt.out {w wr : World} {c : Nat × Nat} (t : BestAt w wr c) (v0 v1 v2 : Value) : (((wr.setCell ⟨w.heap.size, 0, none⟩ v0).setCell ⟨w.heap.size, 1, none⟩ v1).setCell ⟨w.heap.size, 2, none⟩ v2).heap[w.heap.size]? = some (.cells #[v0, v1, v2] 103 (0, 0)) := by
 rw [set_block _ (set_block _ (set_block (w := wr) _ t.first))]
 rfl
theorem sizeTok : (Try.prog.info? 103).map (·.size) = some 3 := by kernel_rfl
theorem best_new (w : World) : BestAt w ((w.alloc (.cells #[.string ⟨#[]⟩, .int .i64 0, .int .i64 0] 103)).alloc (.cells #[.string ⟨#[]⟩, .int .i64 0, .int .i64 0] 103)) (0, 0) := by
 refine ⟨?_, ?_, ((Below.refl _ _).alloc (Nat.le_refl _) _).alloc (by simp) _⟩
 · rw [heap_alloc_old (w.alloc _) _ (by simp), heap_alloc_new]
 · have := heap_alloc_new (w.alloc (.cells #[.string ⟨#[]⟩, .int .i64 0, .int .i64 0] 103)) (.cells #[.string ⟨#[]⟩, .int .i64 0, .int .i64 0] 103)
   rw [show (w.alloc (.cells #[.string ⟨#[]⟩, .int .i64 0, .int .i64 0] 103)).heap.size = w.heap.size + 1 by simp] at this
   exact this

theorem byte_same (s : ByteArray) (a b : Nat) (h1 : a < s.size) (h2 : b < s.size) : s.data.toList[a]? = s.data.toList[b]? ↔ ((s[a].toNat : Int) == (s[b].toNat : Int)) = true := by
 rw [byte_at s a h1, byte_at s b h2, Option.some.injEq, beq_iff_eq, Int.natCast_inj, UInt8.toNat_inj]

set_option maxHeartbeats 2000000 in
set_option maxRecDepth 100000 in
theorem specCopy (s : ByteArray) (i : Nat) (w : World) (hs : s.size ≤ 2000) (hi : i < s.size) :
   Calls Try.prog 92 #[.string s, .int .i64 i] w fun e w' => e = .returned (copyV (copyAt s.data.toList i)) ∧ Below w.heap.size w w' := by
 have hll : s.data.toList.length = s.size := by simp
 have HLL := Lib.hid hll
 have BN := Lib.hid (best_new w)
 clear hll
 go_enter Try.func92, Try.ntmps92
 go_wp2_with fail
 go_loopw [6] (fun fr wr => ∃ F : Nat, 1 ≤ F ∧ F ≤ 256 ∧ F ≤ i + 1 ∧ fr = .int .i64 F ∧ BestAt w wr (bestTo s.data.toList i (F - 1))) (fun fr _ => 256 - (intOf fr).toNat)
 case atStart => exact ⟨1, by omega, by omega, by omega, rfl, BN.out⟩
 case round =>
   clear BN
   obtain ⟨F, hF0, hF1, hF2, rfl, t⟩ := hrel
   have TT := Lib.hid t
   obtain ⟨c, hc⟩ : ∃ c, bestTo s.data.toList i (F - 1) = c := ⟨_, rfl⟩
   rw [hc] at TT t
   have HC := Lib.hid hc
   clear hc
   by_cases hin : F ≤ 255 ∧ F ≤ i
   · obtain ⟨h255, hfi⟩ := hin
     have HBT := Lib.hid (show ∀ n, runLen s.data.toList i F = n → bestTo s.data.toList i (F + 1 - 1) = if 4 ≤ n ∧ c.1 < n then (n, F) else c from fun n hn => by
       obtain ⟨g, rfl⟩ : ∃ g, F = g + 1 := ⟨F - 1, by omega⟩
       have e1 : g + 1 + 1 - 1 = g + 1 := by omega
       have e2 : g + 1 - 1 = g := by omega
       have := HC.out
       rw [e2] at this
       rw [e1, bestTo, hn, this])
     obtain ⟨c0, c1, c2, fz, fz2⟩ := t.cells
     have fz0 := fz 0
     have fz1 := fz 1
     have fz2' := fz 2
     clear t fz fz2
     go_wp2_with fail
     go_loopw [7] (fun nn wi => ∃ (n d : Nat), n ≤ 67 ∧ i + n ≤ s.size ∧ nn = .int .i64 n ∧ Hid (runFrom s.data.toList i F n (67 - n) = runLen s.data.toList i F) ∧ wi = wr.drewN d) (fun nn _ => 67 - (intOf nn).toNat)
     case atStart => exact ⟨0, 0, by omega, by omega, rfl, rfl, rfl⟩
     case round =>
       obtain ⟨n, d, hn, hin, rfl, HR, rfl⟩ := hrel
       by_cases h67 : n < 67
       · have d67 : decide ((n : Int) < 67) = true := by simp; omega
         by_cases hsz : i + n < s.size
         · have dsz : decide ((i : Int) + (n : Int) < (s.size : Int)) = true := by simp; omega
           have i1 : (i : Int) + (n : Int) < (s.size : Int) := by omega
           have i0 : (0 : Int) ≤ (i : Int) + (n : Int) := by omega
           have i2 : ((i : Int) + (n : Int)).toNat = i + n := by omega
           have i3 : (F : Int) ≤ (i : Int) + (n : Int) := by omega
           have i4 : (i : Int) + (n : Int) - (F : Int) < (s.size : Int) := by omega
           have i5 : ((i : Int) + (n : Int) - (F : Int)).toNat = i + n - F := by omega
           have w1 : IntKind.i64.wrap ((i : Int) + (n : Int)) = (i : Int) + (n : Int) := IntWalk.i64_in _ (by omega)
           have w2 : IntKind.i64.wrap ((i : Int) + (n : Int) - (F : Int)) = (i : Int) + (n : Int) - (F : Int) := IntWalk.i64_in _ (by omega)
           have hlo : i + n - F < s.size := by omega
           have HS := Lib.hid (byte_same s (i + n) (i + n - F) hsz hlo)
           go_wp2_with fail
           go_quiet (fail)
           clear w1 w2
           by_cases heq : s.data.toList[i + n]? = s.data.toList[i + n - F]?
           · have htest := HS.out.1 heq
             have HR2 := Lib.hid (show runFrom s.data.toList i F (n + 1) (67 - (n + 1)) = runLen s.data.toList i F by
               rw [← HR.out, show 67 - n = (67 - (n + 1)) + 1 by omega, runFrom, if_pos ⟨by rw [HLL.out]; exact hsz, heq⟩])
             clear heq
             go_wp2
             go_roundw
             case rel => exact ⟨n + 1, _, by omega, by omega, by go_num, HR2.out, rfl⟩
             case measure => simp [intOf]; omega
           · have htest : ((s[i + n].toNat : Int) == (s[i + n - F].toNat : Int)) = false := by
               cases hq : ((s[i + n].toNat : Int) == (s[i + n - F].toNat : Int))
               · rfl
               · exact absurd (HS.out.2 hq) heq
             have HRUN := Lib.hid (show runLen s.data.toList i F = n by rw [← HR.out, runFrom_stop _ _ _ _ _ (fun h => heq h.2)])
             clear heq
             have HE0 := Lib.hid (HBT.out n HRUN.out)
             have hF1' : (F : Int) ≤ 255 := by omega
             by_cases h4 : 4 ≤ n
             · by_cases hb : c.1 < n
               · have HE := Lib.hid (show bestTo s.data.toList i (F + 1 - 1) = (n, F) by rw [HE0.out, if_pos ⟨h4, hb⟩])
                 clear h67
                 go_wp2_with fail
                 go_roundw
                 case rel => exact ⟨F + 1, by omega, by omega, by omega, by go_num, by rw [HE.out]; exact TT.out.put _ n F⟩
                 case measure => simp [intOf]; omega
               · have HE := Lib.hid (show bestTo s.data.toList i (F + 1 - 1) = c by rw [HE0.out, if_neg (fun h => hb h.2)])
                 clear h67
                 go_wp2
                 go_roundw
                 case rel => exact ⟨F + 1, by omega, by omega, by omega, by go_num, by rw [HE.out]; exact TT.out.drewN _⟩
                 case measure => simp [intOf]; omega
             · have HE := Lib.hid (show bestTo s.data.toList i (F + 1 - 1) = c by rw [HE0.out, if_neg (fun h => h4 h.1)])
               clear h67
               go_wp2
               go_roundw
               case rel => exact ⟨F + 1, by omega, by omega, by omega, by go_num, by rw [HE.out]; exact TT.out.drewN _⟩
               case measure => simp [intOf]; omega
         · have dsz : decide ((i : Int) + (n : Int) < (s.size : Int)) = false := by simp; omega
           have i1 : ¬ (i : Int) + (n : Int) < (s.size : Int) := by omega
           have HRUN := Lib.hid (show runLen s.data.toList i F = n by rw [← HR.out, runFrom_stop _ _ _ _ _ (fun h => hsz (by have := h.1; rw [HLL.out] at this; exact this))])
           have w1 : IntKind.i64.wrap ((i : Int) + (n : Int)) = (i : Int) + (n : Int) := IntWalk.i64_in _ (by omega)
           go_wp2_with fail
           go_quiet (fail)
           clear w1
           have HE0 := Lib.hid (HBT.out n HRUN.out)
           have hF1' : (F : Int) ≤ 255 := by omega
           by_cases h4 : 4 ≤ n
           · by_cases hb : c.1 < n
             · have HE := Lib.hid (show bestTo s.data.toList i (F + 1 - 1) = (n, F) by rw [HE0.out, if_pos ⟨h4, hb⟩])
               clear h67
               go_wp2_with fail
               go_roundw
               case rel => exact ⟨F + 1, by omega, by omega, by omega, by go_num, by rw [HE.out]; exact TT.out.put _ n F⟩
               case measure => simp [intOf]; omega
             · have HE := Lib.hid (show bestTo s.data.toList i (F + 1 - 1) = c by rw [HE0.out, if_neg (fun h => hb h.2)])
               clear h67
               go_wp2
               go_roundw
               case rel => exact ⟨F + 1, by omega, by omega, by omega, by go_num, by rw [HE.out]; exact TT.out.drewN _⟩
               case measure => simp [intOf]; omega
           · have HE := Lib.hid (show bestTo s.data.toList i (F + 1 - 1) = c by rw [HE0.out, if_neg (fun h => h4 h.1)])
             clear h67
             go_wp2
             go_roundw
             case rel => exact ⟨F + 1, by omega, by omega, by omega, by go_num, by rw [HE.out]; exact TT.out.drewN _⟩
             case measure => simp [intOf]; omega
       · have d67 : decide ((n : Int) < 67) = false := by simp; omega
         have HRUN := Lib.hid (show runLen s.data.toList i F = n by rw [← HR.out, show 67 - n = 0 by omega]; rfl)
         go_wp2_with fail
         go_quiet (fail)
         have HE0 := Lib.hid (HBT.out n HRUN.out)
         have hF1' : (F : Int) ≤ 255 := by omega
         by_cases h4 : 4 ≤ n
         · by_cases hb : c.1 < n
           · have HE := Lib.hid (show bestTo s.data.toList i (F + 1 - 1) = (n, F) by rw [HE0.out, if_pos ⟨h4, hb⟩])
             clear h67
             go_wp2_with fail
             go_roundw
             case rel => exact ⟨F + 1, by omega, by omega, by omega, by go_num, by rw [HE.out]; exact TT.out.put _ n F⟩
             case measure => simp [intOf]; omega
           · have HE := Lib.hid (show bestTo s.data.toList i (F + 1 - 1) = c by rw [HE0.out, if_neg (fun h => hb h.2)])
             clear h67
             go_wp2
             go_roundw
             case rel => exact ⟨F + 1, by omega, by omega, by omega, by go_num, by rw [HE.out]; exact TT.out.drewN _⟩
             case measure => simp [intOf]; omega
         · have HE := Lib.hid (show bestTo s.data.toList i (F + 1 - 1) = c by rw [HE0.out, if_neg (fun h => h4 h.1)])
           clear h67
           go_wp2
           go_roundw
           case rel => exact ⟨F + 1, by omega, by omega, by omega, by go_num, by rw [HE.out]; exact TT.out.drewN _⟩
           case measure => simp [intOf]; omega
   · have HCO := Lib.hid (show copyAt s.data.toList i = c by unfold copyAt; rw [← HC.out]; congr 1; omega)
     obtain ⟨c0, c1, c2, fz, fz2⟩ := t.cells
     have g0 := fz2 0
     have g1 := fz2 1
     have g2 := fz2 2
     obtain ⟨b0, b1, b2⟩ := t.old
     have HBL := Lib.hid t.below
     clear fz fz2 t
     by_cases h255 : F ≤ 255
     · have hfi : ¬ F ≤ i := fun h => hin ⟨h255, h⟩
       have hfi' : ¬ (F : Int) ≤ (i : Int) := by omega
       clear hin
       go_wp2
       refine bodyPost_ret (v := copyV c) (results_cell_row Try.results92 _ _ w.heap.size _ #[.string ⟨#[]⟩, .int .i64 c.1, .int .i64 c.2] _ _ rfl (TT.out.out _ _ _) Try.underlying103 rfl (by rw [sizeTok]; rfl)) rfl ⟨by rw [HCO.out], ((HBL.out.setCell (by simp) _).setCell (by simp) _).setCell (by simp) _⟩
     · have h255' : ¬ (F : Int) ≤ 255 := by omega
       clear hin
       go_wp2
       refine bodyPost_ret (v := copyV c) (results_cell_row Try.results92 _ _ w.heap.size _ #[.string ⟨#[]⟩, .int .i64 c.1, .int .i64 c.2] _ _ rfl (TT.out.out _ _ _) Try.underlying103 rfl (by rw [sizeTok]; rfl)) rfl ⟨by rw [HCO.out], ((HBL.out.setCell (by simp) _).setCell (by simp) _).setCell (by simp) _⟩
end Go.Proofs.Ytkomnnijnggbpaa
