/- The laws' marks: a text for each number. -/
import Derived.Test.YtkomnnijnggbpaaGreatDoorProg
import Derived.Test.YtkomnnijnggbpaaGreatDoorDigs
import Derived.Laws.BytesArg
import Derived.RangeFuncBox
import Derived.Deep.LoopGhost
import Derived.Deep.RegionHeld3
import Derived.Test.YtkomnnijnggbpaaGreatDoorZ1
namespace Go.Proofs.YtkomnnijnggbpaaGreatDoor
open Go.RowKit
set_option linter.unusedVariables false

theorem new_cell' (w : World) (cs : Array Value) (T j : Nat) : (w.alloc (.cells cs T)).cell? ⟨w.heap.size, j, none⟩ = cs[j]? := by
 have : (w.alloc (.cells cs T)).heap[w.heap.size]? = some (.cells cs T (0, 0)) := by
   show (w.heap.push _)[w.heap.size]? = _
   rw [Array.getElem?_push, if_pos rfl]
 unfold World.cell?
 rw [this]
 rfl

def mk (k : Nat) : ByteArray := ⟨(109 :: Lib.decDigits k).toArray⟩

theorem Told.tail {n k : Int} {l : List UInt8} (h : Told n k l) (hk : k ≠ 0) (h0 : 0 ≤ k) : Told n (k / 10) (UInt8.ofNat (48 + k.natAbs % 10) :: l) := h.next hk (by omega)

theorem byte_of (k : Int) (h : 0 < k) : (strOfNums [48 + k % 10]).data.toList = [UInt8.ofNat (48 + k.natAbs % 10)] := by
 rw [strOfNums_data]
 simp only [List.map_cons, List.map_nil]
 congr 2
 omega

set_option maxHeartbeats 400000 in
theorem markText_at (n : Nat) (w : World) (h0 : 0 < n) (h1 : n ≤ 1000000000) :
   Calls Tryz.prog 85 #[.int .i64 n] w fun e w' => e = .returned (.string (mk n)) ∧ Below w.heap.size w w' := by
 have hn0 : (0 : Int) < (n : Int) := by omega
 go_enter Tryz.func85, Tryz.ntmps85
 go_wp2
 go_loopw [0, 3] (fun m out wr => ∃ (k : Int) (l : List UInt8), 0 ≤ k ∧ k ≤ 1000000000 ∧ l.length ≤ 20 ∧ m = .int .i64 k ∧ out = .string ⟨l.toArray⟩ ∧ Told n k l ∧ Below w.heap.size w wr) (fun m _ _ => (intOf m).natAbs)
 case atStart => exact ⟨n, [], by omega, by omega, by simp, rfl, rfl, by unfold Told digs; rw [if_neg (by omega)]; simp, Below.refl _ _⟩
 case round =>
   obtain ⟨k, l, hk0, hk1, hl, rfl, rfl, HT, hb⟩ := hrel
   by_cases hk : k = 0
   · subst hk
     go_wp2
     go_ret
     refine ⟨congrArg (fun b => Ending.returned (.string b)) (bytes_ext ?_), hb⟩
     have := HT.done
     rw [Int.natAbs_natCast] at this
     simp [mk, this]
   · have hk2 : 0 < k := by omega
     have HT2 := Lib.hid (HT.tail hk hk0)
     have HB := Lib.hid hb
     have hl2 := HT2.out.len (by omega) (by omega)
     clear hk hb HT
     have hcv := run_convert_bytes_arg (P := Tryz.prog) (wr.alloc (.cells #[.int .u8 (48 + k % 10)] 5)) 22 5 Tryz.underlying22 Tryz.underlying5 wr.heap.size 0 1 1 [48 + k % 10] rfl (fun j hj => by
       obtain rfl : j = 0 := by omega
       rw [new_cell']; rfl) 9 Tryz.underlying9
     have hsz : (strOfNums [48 + k % 10]).size = 1 := by rw [strOfNums_size]; rfl
     go_wp2
     go_roundw
     case rel =>
       refine ⟨k / 10, _, by omega, by omega, hl2, rfl, congrArg Value.string (bytes_ext ?_), HT2.out, HB.out.alloc HB.out.size _⟩
       rw [ByteArray.data_append, Array.toList_append, byte_of k hk2]
       simp
     case measure => simp [intOf]; omega
theorem markText_z (k : Nat) (z : Int) (hz : z = (k : Int)) (w : World) (h0 : 0 < k) (h1 : k ≤ 1000000000) :
   Calls Tryz.prog 85 #[.int .i64 z] w fun e w' => e = .returned (.string (mk k)) ∧ Below w.heap.size w w' := by
 subst hz
 exact markText_at k w h0 h1
def mCel (m : Nat) : Cel := ⟨mk m, mk (m + 1), (m : Int) + 1 + 1, ((m : Int) + 1 + 1 + 1) % 3 == 0, mk (m + 4)⟩
theorem mCel_cells (m : Nat) : celCells (mCel m) = [.string (mk m), .string (mk (m + 1)), .int .i64 ((m : Int) + 1 + 1), .bool (((m : Int) + 1 + 1 + 1) % 3 == 0), .string (mk (m + 4))] := rfl
def mCels (k n : Nat) : List Cel := (List.range n).map fun j => mCel (k + 5 * j)
theorem mCels_at (k n j : Nat) (h : j < n) : (mCels k n)[j]? = some (mCel (k + 5 * j)) := by simp [mCels, h]
theorem mCels_len (k n : Nat) : (mCels k n).length = n := by simp [mCels]
theorem set_cel (y : Cel) (a b c d e : Value) (hy : celCells y = [a, b, c, d, e]) : ∀ (ys : List Cel) (i : Nat), i < ys.length → (((((ys.flatMap celCells).set (i * 5) a).set (i * 5 + 1) b).set (i * 5 + 2) c).set (i * 5 + 3) d).set (i * 5 + 4) e = (ys.set i y).flatMap celCells
 | [], i, h => by simp at h
 | t :: ts, 0, _ => by
   rw [List.set_cons_zero, List.flatMap_cons, List.flatMap_cons, hy]
   rfl
 | t :: ts, i + 1, h => by
   have ih := set_cel y a b c d e hy ts i (by simpa using h)
   rw [List.set_cons_succ, List.flatMap_cons, List.flatMap_cons, ← ih]
   rw [show (i + 1) * 5 = i * 5 + 1 + 1 + 1 + 1 + 1 by omega]
   rfl
theorem mCels_step (k i : Nat) (xs : List Cel) (h : i < xs.length) : (mCels k i ++ xs.drop i).set i (mCel (k + 5 * i)) = mCels k (i + 1) ++ xs.drop (i + 1) := by
 apply List.ext_getElem?
 intro j
 rw [List.getElem?_set]
 by_cases hij : i = j
 · subst hij
   rw [if_pos rfl, if_pos (by simp [mCels_len]; omega)]
   rw [List.getElem?_append, if_pos (by rw [mCels_len]; omega), mCels_at _ _ _ (by omega)]
 · rw [if_neg hij]
   simp only [List.getElem?_append, mCels_len, List.getElem?_drop]
   by_cases h1 : j < i
   · rw [if_pos h1, if_pos (by omega), mCels_at _ _ _ h1, mCels_at _ _ _ (by omega)]
   · rw [if_neg h1, if_neg (by omega)]
     congr 1
     omega
section
variable {w : World} {b e n g cap : Nat} {xs : List Value}
theorem row5_cell (h : w.ownsRow b e 5 (.slice (some ⟨g, 0, none⟩) n cap) n xs) (j : Nat) (hj : j < n * 5) : w.cell? ⟨g, j, none⟩ = xs[j]? ∧ w.frozen? ⟨g, j, none⟩ = false := by
 rcases h.2 with ⟨h0, _⟩ | ⟨g', cap', cur, h1, _, hc, hn, _, hs, ht⟩
 · cases h0
 · cases h1
   refine ⟨?_, by simp [World.frozen?, hc]⟩
   have : w.cell? ⟨g, j, none⟩ = cur[j]? := by simp [World.cell?, hc]
   rw [this, ← ht, List.getElem?_take, if_pos (by omega)]
   simp
theorem row5_set (h : w.ownsRow b e 5 (.slice (some ⟨g, 0, none⟩) n cap) n xs) (j : Nat) (u : Value) : (w.setCell ⟨g, j, none⟩ u).ownsRow b e 5 (.slice (some ⟨g, 0, none⟩) n cap) n (xs.set j u) := by
 refine ⟨by rw [List.length_set]; exact h.1, ?_⟩
 rcases h.2 with ⟨h0, _⟩ | ⟨g', cap', cur, h1, hb, hc, hn, hm, hs, ht⟩
 · cases h0
 · cases h1
   refine .inr ⟨g, cap, cur.setIfInBounds j u, rfl, hb, set_block u hc, hn, hm, by simpa using hs, ?_⟩
   rw [Array.toList_setIfInBounds, List.take_set, ht]
theorem row5_some (h : w.ownsRow b e 5 (.slice (some ⟨g, 0, none⟩) n cap) n xs) (j : Nat) (hj : j < n * 5) : ∃ u, w.cell? ⟨g, j, none⟩ = some u := by
 rw [(row5_cell h j hj).1]
 have := h.1
 exact ⟨_, List.getElem?_eq_getElem (by omega)⟩
theorem row5_shape {v : Value} (h : w.ownsRow b e 5 v n xs) : (v = .slice none 0 0 ∧ n = 0) ∨ ∃ g cap, v = .slice (some ⟨g, 0, none⟩) n cap ∧ n ≤ cap := by
 rcases h.2 with h2 | ⟨g, cap, cur, h1, _, _, h4, _⟩
 · exact .inl h2
 · exact .inr ⟨g, cap, h1, h4⟩
theorem row5_below {w' : World} {v : Value} (h : w.ownsRow b e 5 v n xs) (hb : Below w.heap.size w w') : w'.ownsRow b e 5 v n xs := by
 refine ⟨h.1, ?_⟩
 rcases h.2 with h2 | ⟨g, cap, cur, h1, h2, h3, r⟩
 · exact .inl h2
 · exact .inr ⟨g, cap, cur, h1, h2, (hb.block g ((Array.getElem?_eq_some_iff.1 h3).1)).trans h3, r⟩
end

set_option maxHeartbeats 2000000 in
theorem markCellS_at (v : Value) (k b : Nat) (xs : List Cel) (w : World) (h : w.ownsRow b 41 5 v xs.length (xs.flatMap celCells)) (hk : 1 ≤ k) (hl : k + 5 * xs.length ≤ 1000000000) (hb : b ≤ w.heap.size) :
   Calls Tryz.prog 41 #[v, .int .i64 k] w fun e w' => e = .returned (.int .i64 (k + 5 * xs.length : Nat)) ∧ w'.ownsRow b 41 5 v xs.length ((mCels k xs.length).flatMap celCells) ∧ Below b w w' := by
 rcases row5_shape h with ⟨rfl, h0⟩ | ⟨g, cap, rfl, hcap⟩
 · have hx : xs = [] := List.eq_nil_of_length_eq_zero h0
   subst hx
   go_enter Tryz.func41, Tryz.ntmps41
   go_wp2
   go_loop [1, 5] (fun kk i => kk = .int .i64 k ∧ i = .int .i64 0) (fun _ _ => 0)
   case atStart => exact ⟨rfl, rfl⟩
   case round =>
     obtain ⟨rfl, rfl⟩ := hrel
     go_wp2
     go_ret
     exact ⟨by simp, by simpa [mCels] using h, Below.refl _ _⟩
 · have HH := Lib.hid h
   clear h
   obtain ⟨n, hn⟩ : ∃ n, xs.length = n := ⟨_, rfl⟩
   go_enter Tryz.func41, Tryz.ntmps41
   rw [hn]
   have HN := Lib.hid hn
   rw [hn] at hl hcap
   clear hn
   go_wp2
   go_loopw [1, 5] (fun kk ii wr => ∃ i m : Nat, i ≤ n ∧ 1 ≤ m ∧ m + 5 * (n - i) ≤ 1000000000 ∧ Hid (m = k + 5 * i) ∧ ii = .int .i64 i ∧ kk = .int .i64 m ∧ wr.ownsRow b 41 5 (.slice (some ⟨g, 0, none⟩) n cap) n ((mCels k i ++ xs.drop i).flatMap celCells) ∧ Below b w wr) (fun _ ii _ => n - (intOf ii).toNat)
   case atStart => exact ⟨0, k, Nat.zero_le _, hk, by omega, rfl, rfl, rfl, by have := HH.out; rw [HN.out] at this; simpa [mCels] using this, Below.refl _ _⟩
   case round =>
     obtain ⟨i, m, hi, hm1, hm2, HM, rfl, rfl, hrow, hbel⟩ := hrel
     have RR := Lib.hid (And.intro hrow hbel)
     have hgo := hrow.lt g rfl
     clear hrow hbel
     by_cases hlt : i < n
     · have i1 : (i : Int) < (n : Int) := by omega
       go_wp2_with fail
       refine (markText_z m _ rfl _ (by omega) (by omega)).mono ?_
       rintro e w1 ⟨rfl, hb1⟩
       have r1 := row5_below RR.out.1 hb1
       have B1 := Lib.hid (RR.out.2.trans (hb1.mono (by have := RR.out.2.size; omega)))
       have r2 := row5_set r1 (i * 5) (.string (mk m))
       have S1 := Lib.hid (B1.out.setCell (p := ⟨g, i * 5, none⟩) hgo.1 (.string (mk m)))
       obtain ⟨u1, hu1⟩ := row5_some r1 (i * 5) (by omega)
       have hf1 := (row5_cell r1 (i * 5) (by omega)).2
       have R2 := Lib.hid r2
       clear r1 r2 hb1
       go_wp2_with fail
       refine (markText_z (m + 1) _ (by omega) _ (by omega) (by omega)).mono ?_
       rintro e w2 ⟨rfl, hb2⟩
       clear hu1 hf1
       have r3 := row5_below R2.out hb2
       have B2 := Lib.hid (S1.out.trans (hb2.mono (by have := S1.out.size; omega)))
       obtain ⟨u2, hu2⟩ := row5_some r3 (i * 5 + 1) (by omega)
       have hf2 := (row5_cell r3 (i * 5 + 1) (by omega)).2
       have r4 := row5_set r3 (i * 5 + 1) (.string (mk (m + 1)))
       have S2 := Lib.hid (B2.out.setCell (p := ⟨g, i * 5 + 1, none⟩) hgo.1 (.string (mk (m + 1))))
       obtain ⟨u3, hu3⟩ := row5_some r4 (i * 5 + 2) (by omega)
       have hf3 := (row5_cell r4 (i * 5 + 2) (by omega)).2
       have r5 := row5_set r4 (i * 5 + 2) (.int .i64 ((m : Int) + 1 + 1))
       have S3 := Lib.hid (S2.out.setCell (p := ⟨g, i * 5 + 2, none⟩) hgo.1 (.int .i64 ((m : Int) + 1 + 1)))
       obtain ⟨u4, hu4⟩ := row5_some r5 (i * 5 + 3) (by omega)
       have hf4 := (row5_cell r5 (i * 5 + 3) (by omega)).2
       have r6 := row5_set r5 (i * 5 + 3) (.bool (((m : Int) + 1 + 1 + 1) % 3 == 0))
       have S4 := Lib.hid (S3.out.setCell (p := ⟨g, i * 5 + 3, none⟩) hgo.1 (.bool (((m : Int) + 1 + 1 + 1) % 3 == 0)))
       have R6 := Lib.hid r6
       clear r3 r4 r5 r6 hb2
       obtain ⟨Gq, hGq⟩ : ∃ G, (((m : Int) + 1 + 1 + 1) % 3 == 0) = G := ⟨_, rfl⟩
       rw [hGq] at R6 S4
       have HGQ := Lib.hid hGq
       go_wp2_with fail
       refine (markText_z (m + 4) _ (by omega) _ (by omega) (by omega)).mono ?_
       rintro e w3 ⟨rfl, hb3⟩
       clear hu2 hf2 hu3 hf3 hu4 hf4 hGq
       have r7 := row5_below R6.out hb3
       have B3 := Lib.hid (S4.out.trans (hb3.mono (by have := S4.out.size; omega)))
       obtain ⟨u5, hu5⟩ := row5_some r7 (i * 5 + 4) (by omega)
       have hf5 := (row5_cell r7 (i * 5 + 4) (by omega)).2
       have r8 := row5_set r7 (i * 5 + 4) (.string (mk (m + 4)))
       rw [← HGQ.out, set_cel (mCel m) _ _ _ _ _ (mCel_cells m) _ i (by rw [List.length_append, mCels_len, List.length_drop, HN.out]; omega)] at r8
       have HX := Lib.hid r8
       clear r7 r8 hb3
       go_wp2
       go_roundw
       case rel =>
         have hs := HX.out
         rw [HM.out, mCels_step k i xs (by rw [HN.out]; exact hlt)] at hs
         exact ⟨i + 1, m + 5, by omega, by omega, by omega, by have := HM.out; show m + 5 = k + 5 * (i + 1); omega, by go_num, by go_num, by rw [HM.out]; exact hs, B3.out.setCell (p := ⟨g, i * 5 + 4, none⟩) hgo.1 _⟩
       case measure => simp [intOf]; omega
     · obtain rfl : i = n := by omega
       go_wp2
       go_ret
       refine ⟨ret_int (by rw [HM.out]), ?_, RR.out.2⟩
       have := RR.out.1
       rw [List.drop_of_length_le (by rw [HN.out]; omega), List.append_nil] at this
       exact this

set_option maxHeartbeats 2000000 in
theorem heldCellS_at (v : Value) (k b n : Nat) (w : World) (h : w.ownsRow b 41 5 v n ((mCels k n).flatMap celCells)) (hk : 1 ≤ k) (hl : k + 5 * n ≤ 1000000000) :
   Calls Tryz.prog 42 #[v, .int .i64 k] w fun e w' => e = .returned (.int .i64 (k + 5 * n : Nat)) ∧ Below w.heap.size w w' := by
 rcases row5_shape h with ⟨rfl, rfl⟩ | ⟨g, cap, rfl, hcap⟩
 · go_enter Tryz.func42, Tryz.ntmps42
   go_wp2
   go_loop [1, 5] (fun kk i => kk = .int .i64 k ∧ i = .int .i64 0) (fun _ _ => 0)
   case atStart => exact ⟨rfl, rfl⟩
   case round =>
     obtain ⟨rfl, rfl⟩ := hrel
     go_wp2
     go_ret
     exact ⟨by simp, Below.refl _ _⟩
 · have HH := Lib.hid h
   have hgo := h.lt g rfl
   clear h
   go_enter Tryz.func42, Tryz.ntmps42
   go_wp2
   go_loopw [1, 5] (fun kk ii wr => ∃ i m : Nat, i ≤ n ∧ 1 ≤ m ∧ m + 5 * (n - i) ≤ 1000000000 ∧ Hid (m = k + 5 * i) ∧ ii = .int .i64 i ∧ kk = .int .i64 m ∧ Below w.heap.size w wr) (fun _ ii _ => n - (intOf ii).toNat)
   case atStart => exact ⟨0, k, Nat.zero_le _, hk, by omega, rfl, rfl, rfl, Below.refl _ _⟩
   case round =>
     obtain ⟨i, m, hi, hm1, hm2, HM, rfl, rfl, hbel⟩ := hrel
     have RR := Lib.hid hbel
     by_cases hlt : i < n
     · have i1 : (i : Int) < (n : Int) := by omega
       have hall : ∀ j, j < 5 → w.cell? ⟨g, i * 5 + j, none⟩ = (celCells (mCel m))[j]? := fun j hj => by
         rw [(row5_cell HH.out (i * 5 + j) (by omega)).1, HM.out]
         exact cel_cell _ i j _ (mCels_at k n i hlt) hj
       rw [mCel_cells] at hall
       have CC : ∀ W, Below w.heap.size w W → W.cell? ⟨g, i * 5, none⟩ = some (.string (mk m)) ∧ W.cell? ⟨g, i * 5 + 1, none⟩ = some (.string (mk (m + 1))) ∧ W.cell? ⟨g, i * 5 + 2, none⟩ = some (.int .i64 ((m : Int) + 1 + 1)) ∧ W.cell? ⟨g, i * 5 + 3, none⟩ = some (.bool (((m : Int) + 1 + 1 + 1) % 3 == 0)) ∧ W.cell? ⟨g, i * 5 + 4, none⟩ = some (.string (mk (m + 4))) := fun W hb =>
         ⟨(hb.cell (p := ⟨g, i * 5, none⟩) hgo.2).trans (hall 0 (by omega)), (hb.cell (p := ⟨g, i * 5 + 1, none⟩) hgo.2).trans (hall 1 (by omega)), (hb.cell (p := ⟨g, i * 5 + 2, none⟩) hgo.2).trans (hall 2 (by omega)), (hb.cell (p := ⟨g, i * 5 + 3, none⟩) hgo.2).trans (hall 3 (by omega)), (hb.cell (p := ⟨g, i * 5 + 4, none⟩) hgo.2).trans (hall 4 (by omega))⟩
       have HC := Lib.hid CC
       have c0 := (CC _ hbel).1
       have hgw : g < wr.heap.size := Nat.lt_of_lt_of_le hgo.2 hbel.size
       clear hall hbel CC
       go_wp2
       go_region_held3 (fun w' => w'.cell? ⟨g, i * 5, none⟩ = some (.string (mk m))) (first | exact c0 | exact (hb1.cell (p := ⟨g, i * 5, none⟩) hgw).trans c0)
         (first | (go_at_call 85; refine (markText_z m _ rfl _ (by omega) (by omega)).mono ?_; rintro e w1 ⟨rfl, hb1⟩))
       have HB1 := Lib.hid (RR.out.drew.trans (hb1.mono (by have := RR.out.size; simpa using this)))
       have d1 := (HC.out _ HB1.out).2.1
       have hgw1 : g < w1.heap.size := Nat.lt_of_lt_of_le hgo.2 HB1.out.size
       clear hb1 c0 hgw
       go_wp2
       go_region_held3 (fun w' => w'.cell? ⟨g, i * 5 + 1, none⟩ = some (.string (mk (m + 1)))) (first | exact d1 | exact (hb2.cell (p := ⟨g, i * 5 + 1, none⟩) hgw1).trans d1)
         (first | (go_at_call 85; refine (markText_z (m + 1) _ (by omega) _ (by omega) (by omega)).mono ?_; rintro e w2 ⟨rfl, hb2⟩))
       have HB2 := Lib.hid (HB1.out.drew.trans (hb2.mono (by have := HB1.out.size; simpa using this)))
       obtain ⟨_, _, e2, e3, e4⟩ := HC.out _ HB2.out
       have hgw2 : g < w2.heap.size := Nat.lt_of_lt_of_le hgo.2 HB2.out.size
       clear hb2 d1 hgw1
       go_wp2
       go_region_held3 (fun w' => w'.cell? ⟨g, i * 5 + 4, none⟩ = some (.string (mk (m + 4)))) (first | exact e4 | exact (hb3.cell (p := ⟨g, i * 5 + 4, none⟩) hgw2).trans e4)
         (first | (go_at_call 85; refine (markText_z (m + 4) _ (by omega) _ (by omega) (by omega)).mono ?_; rintro e w3 ⟨rfl, hb3⟩))
       have HB3 := Lib.hid (HB2.out.drew.trans (hb3.mono (by have := HB2.out.size; simpa using this)))
       clear hb3 e2 e3 e4
       go_wp2
       go_roundw
       case rel => exact ⟨i + 1, m + 5, by omega, by omega, by omega, by have := HM.out; show m + 5 = k + 5 * (i + 1); omega, by go_num, by go_num, HB3.out⟩
       case measure => simp [intOf]; omega
     · obtain rfl : i = n := by omega
       go_wp2
       go_ret
       exact ⟨ret_int (by rw [HM.out]), RR.out⟩
end Go.Proofs.YtkomnnijnggbpaaGreatDoor
