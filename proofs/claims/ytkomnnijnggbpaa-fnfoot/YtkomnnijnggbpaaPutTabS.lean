/- The model's PutTable. -/
import Derived.Test.YtkomnnijnggbpaaNamesS
import Derived.Test.YtkomnnijnggbpaaZ4
import Derived.Test.YtkomnnijnggbpaaPutBlockS
import Derived.Test.YtkomnnijnggbpaaWrap
import Derived.Test.YtkomnnijnggbpaaFilterS
import Derived.Test.YtkomnnijnggbpaaKeyOf
import Derived.Test.YtkomnnijnggbpaaZ1
import Derived.Test.YtkomnnijnggbpaaZ0
import Derived.Deep.CutRange
namespace Go.Proofs.Ytkomnnijnggbpaa
open Go.RowKit
set_option linter.unusedVariables false

def ConfAt (w : World) (b : Nat) (e z : Nat) (p : Bool) : Prop := w.cell? ⟨b, 0, none⟩ = some (.int .i64 e) ∧ w.cell? ⟨b, 1, none⟩ = some (.int .i64 z) ∧ w.cell? ⟨b, 2, none⟩ = some (.bool p)
theorem ConfAt.below {w w' : World} {b e z : Nat} {p : Bool} (h : ConfAt w b e z p) (hb : Below w.heap.size w w') : ConfAt w' b e z p := by
 have hA := cell_lt h.1
 exact ⟨(hb.cell (p := ⟨b, 0, none⟩) hA).trans h.1, (hb.cell (p := ⟨b, 1, none⟩) hA).trans h.2.1, (hb.cell (p := ⟨b, 2, none⟩) hA).trans h.2.2⟩
theorem cell_made (w : World) (cs : Array Value) (T j : Nat) : (w.alloc (.cells cs T)).cell? ⟨w.heap.size, j, none⟩ = cs[j]? := by
 have hb : (w.alloc (.cells cs T)).heap[w.heap.size]? = some (.cells cs T (0, 0)) := alloc_at w _
 unfold World.cell?
 rw [hb]
 rfl
theorem conf_new (w : World) (e z : Nat) (p : Bool) : ConfAt (w.alloc (.cells #[.int .i64 e, .int .i64 z, .bool p] 28)) w.heap.size e z p := by
 exact ⟨cell_made w _ _ 0, cell_made w _ _ 1, cell_made w _ _ 2⟩
theorem part_row {w : World} {g off n c z k m : Nat} {xs : List Cel} (h : CelRowO w (some ⟨g, off, none⟩) n c xs) (hm : k * z = m) {E : Nat} (hE : E = min (m + z) n) (hmn : m ≤ n) : CelRowO w (some ⟨g, off + m * 5, none⟩) (E - m) (c - m) (partAt z k xs) := by
 have h1 := h.1
 have h2 := h.2.1
 refine ⟨?_, by omega, fun j y hj => ?_⟩
 · unfold partAt
   rw [List.length_take, List.length_drop, hm]
   omega
 · unfold partAt at hj
   rw [List.getElem?_take] at hj
   split at hj
   · rw [List.getElem?_drop, hm] at hj
     obtain ⟨g', off', e, hc⟩ := h.2.2 (m + j) y hj
     cases e
     refine ⟨g, off + m * 5, rfl, ?_⟩
     rw [show off + m * 5 + j * 5 = off + (m + j) * 5 by omega]
     exact hc
   · cases hj
theorem fit_part {xs : List Cel} (h : Fit xs) (z k : Nat) : Fit (partAt z k xs) := fun y hy => h y (List.mem_of_mem_drop (List.mem_of_mem_take hy))

theorem blk_lt {n z k : Nat} (hz : 1 ≤ z) (h : k * z < n) : k < (n + z - 1) / z := by
 have h1 : (k + 1) * z ≤ n + z - 1 := by rw [Nat.succ_mul]; omega
 exact Nat.lt_of_succ_le ((Nat.le_div_iff_mul_le (by omega)).2 h1)
theorem blk_all {n z k : Nat} (hz : 1 ≤ z) (h : n ≤ k * z) (h2 : k = 0 ∨ (k - 1) * z < n) : (n + z - 1) / z = k := by
 apply Nat.div_eq_of_lt_le
 · rcases h2 with rfl | h2
   · omega
   · cases k with
     | zero => omega
     | succ k => rw [Nat.succ_mul]; simp at h2; omega
 · rw [Nat.succ_mul]; omega
theorem last_part {xs : List Cel} {z k m q : Nat} {x : Cel} (hm : k * z = m) (hq : xs[q]? = some x) (h1 : q + 1 = min (m + z) xs.length) (h2 : m ≤ q) : lastOf [] (partAt z k xs) = celKey x := by
 have hl : (partAt z k xs).length = q + 1 - m := by unfold partAt; rw [List.length_take, List.length_drop, hm]; omega
 have hg : (partAt z k xs).getLast? = some x := by
   rw [List.getLast?_eq_getElem?, hl]
   unfold partAt
   rw [List.getElem?_take, if_pos (by omega), List.getElem?_drop, hm, show m + (q + 1 - m - 1) = q by omega]
   exact hq
 unfold lastOf
 rw [hg]
def foots (l : List Nat) : List UInt8 := l.flatMap (fun x => fixB x 4)
theorem names_small {xs : List Cel} (h : cellsOk xs = true) {x : Cel} (hx : x ∈ xs) : x.row.size ≤ 1000000 ∧ x.col.size ≤ 1000000 := by
 have := ok_small (all_ok h x hx)
 omega
theorem name_size (x : Cel) : (nameOf x).size = x.row.size + 1 + x.col.size := by
 unfold nameOf
 rw [ByteArray.size_append, ByteArray.size_append]
 rfl
theorem names_fit {xs : List Cel} (h : cellsOk xs = true) : FitS (xs.map nameOf) := fun y hy => by
 obtain ⟨x, hx, rfl⟩ := List.mem_map.1 hy
 have := ok_small (all_ok h x hx)
 rw [name_size]
 unfold maxLen
 omega
theorem names_lists (xs : List Cel) : lists (xs.map nameOf) = xs.map nameKey := by
 unfold lists
 rw [List.map_map]
 exact List.map_congr_left (fun x _ => name_key x)
theorem var_few {n : Nat} (h : n < 2097152) : (varB n).length ≤ 3 := var_len_le 2 n (by omega)
set_option maxHeartbeats 4000000 in
set_option maxRecDepth 100000 in
theorem specPutTable_in (a : Option Addr) (n c : Nat) (xs : List Cel) (e z : Nat) (p : Bool) (hn : n ≤ 60) (hok : cellsOk xs = true) (he1 : 1 ≤ e) (he2 : e ≤ 16) (hz1 : 1 ≤ z) (hz2 : z ≤ 50) (w : World) (h : CelRowO w a n c xs) :
   Calls Try.prog 11 #[.slice a n c, .agg #[.int .i64 e, .int .i64 z, .bool p]] w fun r w' => r = .returned (.string ⟨(putTable xs ⟨e, z, p⟩).toArray⟩) ∧ Below w.heap.size w w' := by
 have HR := Lib.hid h
 have HOK := Lib.hid hok
 have HF := Lib.hid (fit_ok hok)
 have hnc := h.2.1
 have HC0 := Lib.hid (conf_new w e z p)
 have B0 := Lib.hid ((Below.refl w.heap.size w).alloc (Nat.le_refl _) (.cells #[.int .i64 e, .int .i64 z, .bool p] 28))
 clear h hok
 obtain ⟨cf, hcf⟩ : ∃ cf : Conf, (⟨(e : Int), (z : Int), p⟩ : Conf) = cf := ⟨_, rfl⟩
 have HCF := Lib.hid hcf
 rw [hcf]
 have hzz : cf.size.toNat = z := by rw [← hcf]; simp
 have HZ := Lib.hid hzz
 have HCK := Lib.hid (show confOk ⟨(e : Int), (z : Int), p⟩ = true by unfold confOk; simp; omega)
 clear hcf hzz
 have h0 := HC0.out
 unfold ConfAt at h0
 obtain ⟨x0, x1, x2⟩ := h0
 go_enter Try.func11, Try.ntmps11
 go_wp2_with fail
 refine (specCellsOkO a n c xs (by omega) HF.out _ (HR.out.below B0.out)).mono ?_
 rw [HOK.out]
 rintro r w1 ⟨rfl, b1⟩
 have C1 := Lib.hid (HC0.out.below b1)
 have B1 := Lib.hid (B0.out.trans (b1.mono B0.out.size))
 clear b1 x0 x1 x2
 obtain ⟨b0, hb0⟩ : ∃ b, w.heap.size = b := ⟨_, rfl⟩
 have HB0 := Lib.hid hb0
 have C1 := Lib.hid (show ConfAt w1 b0 e z p by rw [← hb0]; exact C1.out)
 have h1 := C1.out
 unfold ConfAt at h1
 obtain ⟨x0, x1, x2⟩ := h1
 rw [hb0]
 go_wp2_with fail
 refine (specConfigOk e z p _).mono ?_
 rw [HCK.out]
 rintro r w2 ⟨rfl, b2⟩
 have C1 := Lib.hid (C1.out.below b2)
 have B1 := Lib.hid (B1.out.trans (b2.mono B1.out.size))
 clear x0 x1 x2 b2
 go_wp2_with fail
 go_loopw [4, 5, 6, 7, 8, 9, 10, 11] (fun rr oo xx ii ee bb px kk wr => ∃ (k m : Nat) (O I : ByteArray), Hid (k * z = m) ∧ k ≤ n ∧ m ≤ 110 ∧ ii = .int .i64 m ∧ oo = .string O ∧ xx = .string I ∧ O.size ≤ 2005 * k ∧ I.size ≤ 50 * k ∧ Hid (O.data.toList = outTo xs cf k ∧ I.data.toList = idxTo xs cf k ∧ (∀ j, j < k → blkAt xs cf j ≠ []) ∧ (k = 0 ∨ (k - 1) * z < n)) ∧ Hid (ConfAt wr b0 e z p ∧ Below w.heap.size w wr)) (fun _ _ _ ii _ _ _ _ _ => 200 - (intOf ii).toNat)
 case atStart => exact ⟨0, 0, ⟨#[]⟩, ⟨#[]⟩, Nat.zero_mul z, by omega, by omega, rfl, rfl, rfl, by decide, by decide, ⟨rfl, rfl, (fun j hj => absurd hj (by omega)), .inl rfl⟩, ⟨C1.out, B1.out⟩⟩
 case round =>
   obtain ⟨k, m, O, I, HM, hkn, hm110, rfl, rfl, rfl, hO, hI, HST, HW⟩ := hrel
   have CW := Lib.hid HW.out.1
   have LW := Lib.hid HW.out.2
   have h1 := CW.out
   unfold ConfAt at h1
   obtain ⟨x0, x1, x2⟩ := h1
   clear HW
   by_cases hlt : m < n
   · obtain ⟨y0, hy0⟩ : ∃ y, xs[m]? = some y := ⟨_, List.getElem?_eq_getElem (by rw [HR.out.1]; exact hlt)⟩
     obtain ⟨g, off, hag, _⟩ := HR.out.2.2 m y0 hy0
     subst hag
     obtain ⟨E, hE⟩ : ∃ E, min (m + z) n = E := ⟨_, rfl⟩
     have HPR := Lib.hid (part_row HR.out HM.out hE.symm (by omega))
     have HPF := Lib.hid (fit_part HF.out z k)
     obtain ⟨PB, hPB, hPBl⟩ := text_of (putBlock (partAt z k xs) (e : Int))
     have HPB := Lib.hid (as_text hPB)
     obtain ⟨BK, hBK, hBKl⟩ := text_of (wrapB PB.data.toList p)
     have HBK := Lib.hid hBK
     have HBA := Lib.hid (show BK.data.toList = blkAt xs cf k by rw [hBK, hPB]; unfold blkAt; rw [HZ.out, ← HCF.out])
     have hBK2 : BK.size ≤ 2005 := by rw [hBKl]; exact wrap_most _ _
     have i1 : (m : Int) < (n : Int) := by omega
     have hcm : ¬ c = m := by omega
     clear hy0 hPB hPBl hBK hBKl
     have hmE : m < E := by omega
     have hEn : E ≤ n := by omega
     have hEz : E ≤ m + z := by omega
     go_upto_if 44 with fail
     go_cut [8] from 29 to 88 (fun e8 wx => e8 = .int .i64 E ∧ wx = wr)
     case first =>
       by_cases hov : n < m + z
       · have j1 : (n : Int) < (m : Int) + (z : Int) := by omega
         have hEq : E = n := by omega
         go_wp2_with fail
         go_meet
         case rel => exact ⟨by rw [hEq], rfl⟩
       · have j1 : ¬ (n : Int) < (m : Int) + (z : Int) := by omega
         have hEq : (E : Int) = (m : Int) + (z : Int) := by omega
         go_wp2_with fail
         go_meet
         case rel => exact ⟨by rw [hEq], rfl⟩
     case rest =>
       obtain ⟨rfl, rfl⟩ := hcut
       clear x0 x1 x2
       have s1 : (m : Int) ≤ (E : Int) := by omega
       have s2 : (E : Int) ≤ (c : Int) := by omega
       have s0 : (0 : Int) ≤ (m : Int) := by omega
       go_upto_region 10 with fail
       go_cut [9] from 29 to 88 (fun v9 wx => v9 = .string BK ∧ ConfAt wx b0 e z p ∧ Below w.heap.size w wx)
       case first =>
         refine wp_region_held_drew (S := fun w' => ConfAt w' b0 e z p) (by kernel_rfl) CW.out (fun hHeld => ?_)
         refine tk 0 (some 47) ?_ ?hy hHeld ?_
         case hy => (intro w' hS; clear hS; go_simp <;> with_reducible rfl)
         simp only [Act.put, sA, sB, sC]
         refine tk 1 (some 48) ?_ ?hy hHeld ?_
         case hy => (intro w' hS; clear hS; go_simp <;> with_reducible rfl)
         simp only [Act.put, sA, sB, sC]
         refine tk 2 (some 49) ?_ ?hy hHeld ?_
         case hy => (intro w' hS; clear hS; go_simp <;> with_reducible rfl)
         simp only [Act.put, sA, sB, sC]
         refine tk 3 (some 50) (.slice (some ⟨g, off + m * 5, none⟩) (E - m) (c - m)) ?hy hHeld ?_
         case hy => (intro w' hS; clear hS; go_simp)
         simp only [Act.put, sA, sB, sC]
         refine tk 4 (some 51) ?_ ?hy hHeld ?_
         case hy => (intro w' hS; clear hS; go_simp <;> with_reducible rfl)
         simp only [Act.put, sA, sB, sC]
         refine tk 5 (some 52) ?_ ?hy hHeld ?_
         case hy => (intro w' hS; obtain ⟨s0, s1, s2⟩ := hS; go_simp <;> with_reducible rfl)
         simp only [Act.put, sA, sB, sC]
         refine tk 7 (some 54) ?_ ?hy hHeld ?_
         case hy => (intro w' hS; clear hS; go_simp <;> with_reducible rfl)
         simp only [Act.put, sA, sB, sC]
         refine tk 8 (some 55) ?_ ?hy hHeld ?_
         case hy => (intro w' hS; obtain ⟨s0, s1, s2⟩ := hS; go_simp <;> with_reducible rfl)
         simp only [Act.put, sA, sB, sC]
         refine wpAnyH_ready (rs := [6]) (by kernel_rfl) (by simp) ?_
         refine AllReadyH.cons rfl (fun K hK => ?_) AllReadyH.nil
         go_simp
         refine (specPutBlockO (some ⟨g, off + m * 5, none⟩) (E - m) (c - m) (partAt z k xs) (e : Int) (by omega) (HPF.out) _ (HPR.out.below (by first | exact LW.out | exact LW.out.drew))).mono ?_
         rintro r w5 ⟨rfl, b5⟩
         rw [HPB.out]
         have C5 := Lib.hid ((show ConfAt wc.drew b0 e z p from CW.out.below (below_draws 1)).below b5)
         have L5 := Lib.hid ((show Below w.heap.size w wc.drew from LW.out.trans (below_draws 1)).trans (b5.mono (by have := LW.out.size; simpa using this)))
         clear b5
         go_wp2_with fail
         refine hK.out _ _ C5.out (fun hHeld => ?_)
         clear hK K
         refine wpAnyH_ready (rs := [9]) (by kernel_rfl) (by simp) ?_
         refine AllReadyH.cons rfl (fun K hK => ?_) AllReadyH.nil
         go_simp
         refine (specWrap PB BK p HBK.out _).mono ?_
         rintro r w6 ⟨rfl, b6⟩
         have C6 := Lib.hid (C5.out.below b6)
         have L6 := Lib.hid (L5.out.trans (b6.mono L5.out.size))
         clear b6
         go_wp2_with fail
         refine hK.out _ _ C6.out (fun hHeld => ?_)
         clear hK K
         refine tk 10 (some 9) ?_ ?hy hHeld ?_
         case hy => (intro w' hS; clear hS; go_simp <;> with_reducible rfl)
         simp only [Act.put, sA, sB, sC]
         refine wpAnyH_done (by kernel_rfl) ?_ _
         go_wp2
         go_meet
         case rel => exact ⟨rfl, C6.out, L6.out⟩
       case rest =>
         obtain ⟨rfl, c6, l6⟩ := hcut
         have C6 := Lib.hid c6
         have L6 := Lib.hid l6
         clear c6 l6
         by_cases hbk : BK.data.toList = []
         · have HP := Lib.hid (show putTable xs cf = [] from if_neg (fun h => h.2.2.2.1 k (by unfold nBlk; rw [HR.out.1, HZ.out]; exact blk_lt hz1 (by rw [HM.out]; exact hlt)) (by rw [← HBA.out]; exact hbk)))
           have hBe : BK = ⟨#[]⟩ := bytes_ext (by rw [hbk])
           subst hBe
           clear hbk
           go_wp2
           go_ret
           exact ⟨by rw [HP.out]; rfl, by have := L6.out; rwa [HB0.out] at this⟩
         · have hbn : BK.toList.isEmpty = false := by
             rw [ByteArray.toList_eq]
             cases h1 : BK.data.toList with
             | nil => exact absurd h1 hbk
             | cons _ _ => rfl
           obtain ⟨q, hq⟩ : ∃ q, E = q + 1 := ⟨E - 1, by omega⟩
           have q1 : (E : Int) - 1 = (q : Int) := by omega
           have q2 : (q : Int) < (n : Int) := by omega
           have q0 : (0 : Int) ≤ (q : Int) := by omega
           obtain ⟨⟨R, C, t, G, V⟩, hx⟩ : ∃ x, xs[q]? = some x := ⟨_, List.getElem?_eq_getElem (by rw [HR.out.1]; omega)⟩
           obtain ⟨g', off', hag, k5⟩ := (HR.out.below L6.out).2.2 q _ hx
           cases hag
           have hR := (HF.out _ (List.mem_of_getElem? hx)).1
           have hC := (HF.out _ (List.mem_of_getElem? hx)).2.1
           have hck := cells_ok HOK.out hx
           have HKL := Lib.hid (key_small hck)
           have HLP := Lib.hid (last_part (z := z) (k := k) HM.out hx (by rw [HR.out.1]; omega) (by omega))
           have HQ := Lib.hid hq
           clear hq
           unfold Cel5O at k5
           obtain ⟨d0, d1, d2, d3, d4⟩ := k5
           have X6 := one5_new wc (.string R) (.string C) (.int .i64 t) (.bool G) (.string V) 36
           unfold One5 at X6
           obtain ⟨y0, y1, y2, y3, y4⟩ := X6
           have C7 := Lib.hid (C6.out.below ((Below.refl wc.heap.size wc).alloc (Nat.le_refl _) (.cells #[.string R, .string C, .int .i64 t, .bool G, .string V] 36)))
           have L7 := Lib.hid (L6.out.alloc L6.out.size (.cells #[.string R, .string C, .int .i64 t, .bool G, .string V] 36))
           have HBN := Lib.hid hbk
           clear hx hck hbk
           go_wp2_with fail
           refine (specKeyOf R C t hR hC _).mono ?_
           intro r w8 h8
           obtain ⟨Ky, hK, hKz, rfl, b8⟩ := h8.text
           have HK := Lib.hid (show Ky.data.toList = celKey ⟨R, C, t, G, V⟩ from hK)
           have hK38 : Ky.size ≤ 38 := by
             have h1 := HKL.out
             rw [← HK.out] at h1
             simpa using h1
           have C8 := Lib.hid (C7.out.below b8)
           have L8 := Lib.hid (L7.out.trans (b8.mono L7.out.size))
           clear h8 hK hKz b8 d0 d1 d2 d3 d4 y0 y1 y2 y3 y4 hbn
           obtain ⟨P1, hP1, hP1s⟩ := text_of (varB Ky.size)
           obtain ⟨P2, hP2, hP2s⟩ := text_of (varB O.size)
           obtain ⟨P3, hP3, hP3s⟩ := text_of (varB BK.size)
           have p1s : P1.size ≤ 3 := by rw [hP1s]; exact var_few (by omega)
           have p2s : P2.size ≤ 3 := by rw [hP2s]; exact var_few (by omega)
           have p3s : P3.size ≤ 3 := by rw [hP3s]; exact var_few (by omega)
           have HP1 := Lib.hid (show P1.data.toList = putVar (Ky.size : Int) by rw [hP1, putVar_in (by omega)])
           have HP2 := Lib.hid (show P2.data.toList = putVar (O.size : Int) by rw [hP2, putVar_in (by omega)])
           have HP3 := Lib.hid (show P3.data.toList = putVar (BK.size : Int) by rw [hP3, putVar_in (by omega)])
           have HV := Lib.hid (And.intro hP1 (And.intro hP2 hP3))
           clear hP1 hP2 hP3 hP1s hP2s hP3s
           have v1 : ¬ 9223372036854775807 < I.size + P1.size := by omega
           have v2 : ¬ 9223372036854775807 < I.size + P1.size + Ky.size := by omega
           have v3 : ¬ 9223372036854775807 < I.size + P1.size + Ky.size + P2.size := by omega
           have v4 : ¬ 9223372036854775807 < I.size + P1.size + Ky.size + P2.size + P3.size := by omega
           have v5 : ¬ 9223372036854775807 < O.size + BK.size := by omega
           go_wp2_with fail
           refine (specPutVar_as (Ky.size : Int) P1 HP1.out _).mono ?_
           rintro r w9 ⟨rfl, b9⟩
           have C9 := Lib.hid (C8.out.below b9)
           have L9 := Lib.hid (L8.out.trans (b9.mono L8.out.size))
           clear b9
           go_wp2_with fail
           refine (specPutVar_as (O.size : Int) P2 HP2.out _).mono ?_
           rintro r w10 ⟨rfl, b10⟩
           have C10 := Lib.hid (C9.out.below b10)
           have L10 := Lib.hid (L9.out.trans (b10.mono L9.out.size))
           clear b10
           go_wp2_with fail
           refine (specPutVar_as (BK.size : Int) P3 HP3.out _).mono ?_
           rintro r w11 ⟨rfl, b11⟩
           have C11 := Lib.hid (C10.out.below b11)
           have L11 := Lib.hid (L10.out.trans (b11.mono L10.out.size))
           clear b11
           have h1 := C11.out
           unfold ConfAt at h1
           obtain ⟨x0, x1, x2⟩ := h1
           go_wp2_with fail
           go_roundw
           case rel =>
             refine ⟨k + 1, m + z, O ++ BK, I ++ P1 ++ Ky ++ P2 ++ P3, ?_, ?_, by omega, by first | rfl | go_num, rfl, rfl, ?_, ?_, ⟨?_, ?_, ?_, ?_⟩, ⟨C11.out, L11.out⟩⟩
             · show (k + 1) * z = m + z
               rw [Nat.succ_mul, HM.out]
             · have h1 := HM.out
               have h2 : k * 1 ≤ k * z := Nat.mul_le_mul_left _ hz1
               omega
             · rw [ByteArray.size_append]; omega
             · simp only [ByteArray.size_append]; omega
             · show (O ++ BK).data.toList = outTo xs cf (k + 1)
               rw [ByteArray.data_append, Array.toList_append, HST.out.1, HBA.out]
               rfl
             · show (I ++ P1 ++ Ky ++ P2 ++ P3).data.toList = idxTo xs cf (k + 1)
               simp only [ByteArray.data_append, Array.toList_append, List.append_assoc]
               rw [HST.out.2.1, HV.out.1, HV.out.2.1, HV.out.2.2, HK.out]
               have e1 : Ky.size = (celKey ⟨R, C, t, G, V⟩).length := by rw [← HK.out]; simp
               have e2 : O.size = (outTo xs cf k).length := by rw [← HST.out.1]; simp
               have e3 : BK.size = (blkAt xs cf k).length := by rw [← HBA.out]; simp
               rw [e1, e2, e3]
               rw [show idxTo xs cf (k + 1) = idxTo xs cf k ++ idxAt xs cf k from rfl]
               unfold idxAt
               rw [HZ.out, HLP.out]
             · intro j hj
               by_cases hjk : j < k
               · exact HST.out.2.2.1 j hjk
               · obtain rfl : j = k := by omega
                 rw [← HBA.out]
                 exact HBN.out
             · right
               show (k + 1 - 1) * z < n
               rw [Nat.add_sub_cancel, HM.out]
               exact hlt
           case measure => simp [intOf]; omega
   · have hkz : (n + z - 1) / z = k := blk_all hz1 (by rw [HM.out]; omega) HST.out.2.2.2
     have hNB := Lib.hid (show nBlk xs cf = k by unfold nBlk; rw [HR.out.1, HZ.out]; exact hkz)
     obtain ⟨TP, hTP, hTPl⟩ := text_of (topB xs cf)
     obtain ⟨FL, hFL, hFLl⟩ := text_of (filterB (xs.map nameKey))
     obtain ⟨FW, hFW, hFWl⟩ := text_of (filB xs)
     have HTP := Lib.hid (show TP.data.toList = wrapB I.data.toList p by rw [hTP, HST.out.2.1]; unfold topB; rw [hNB.out, ← HCF.out])
     have HFL := Lib.hid (as_text hFL)
     have HFW := Lib.hid (show FW.data.toList = wrapB FL.data.toList false by rw [hFW, hFL]; rfl)
     have htps : TP.size ≤ 2005 := by rw [hTPl]; exact wrap_most _ _
     have hfws : FW.size ≤ 2005 := by rw [hFWl]; exact wrap_most _ _
     have HTP2 := Lib.hid hTP
     have HFW2 := Lib.hid hFW
     have HFF := Lib.hid hFL
     have HNF := Lib.hid (show FitS (xs.map nameOf) from names_fit HOK.out)
     have HNL := Lib.hid (show lists (xs.map nameOf) = xs.map nameKey from names_lists xs)
     clear hTP hFL hFW hTPl hFLl hFWl hkz
     go_wp2_with fail
     refine (specWrap I TP p HTP.out _).mono ?_
     rintro r w3 ⟨rfl, b3⟩
     have C3 := Lib.hid (CW.out.below b3)
     have L3 := Lib.hid (LW.out.trans (b3.mono LW.out.size))
     clear b3 x0 x1 x2
     go_wp2_with fail
     refine (specNames a n c xs (by omega) (fun x hx => names_small HOK.out hx) _ (HR.out.below L3.out)).mono ?_
     rintro r w4 ⟨v4, rfl, o4, b4⟩
     have C4 := Lib.hid (C3.out.below b4)
     have L4 := Lib.hid (L3.out.trans (b4.mono L3.out.size))
     obtain ⟨ad4, cp4, hv4⟩ := o4.form
     have O4 := Lib.hid o4
     subst hv4
     clear b4 o4
     rw [List.length_map, HR.out.1]
     have hlm : (xs.map nameOf).length = n := by rw [List.length_map, HR.out.1]
     have HRS := Lib.hid (show StrAt w4 ad4 n cp4 (xs.map nameOf) by have := O4.out; rw [hlm] at this; exact this.row)
     clear hlm
     go_wp2_with fail
     refine (specFilter ad4 n cp4 (xs.map nameOf) (by omega) HNF.out _ HRS.out).mono ?_
     rw [HNL.out, HFL.out]
     rintro r w5 ⟨rfl, b5⟩
     have C5 := Lib.hid (C4.out.below b5)
     have L5 := Lib.hid (L4.out.trans (b5.mono L4.out.size))
     clear b5
     go_wp2_with fail
     refine (specWrap FL FW false HFW.out _).mono ?_
     rintro r w6 ⟨rfl, b6⟩
     have C6 := Lib.hid (C5.out.below b6)
     have L6 := Lib.hid (L5.out.trans (b6.mono L5.out.size))
     clear b6
     have hfn : FW.toList.isEmpty = false := by
       rw [ByteArray.toList_eq, HFW2.out]
       cases h1 : filB xs with
       | nil => exact absurd h1 (fil_ne xs (by rw [HR.out.1]; omega))
       | cons _ _ => rfl
     by_cases htk : TP.data.toList = []
     · have HP := Lib.hid (show putTable xs cf = [] from if_neg (fun h => h.2.2.2.2 (by rw [← HTP2.out]; exact htk)))
       have hTe : TP = ⟨#[]⟩ := bytes_ext (by rw [htk])
       subst hTe
       clear htk
       go_wp2
       go_ret
       exact ⟨by rw [HP.out]; rfl, by have := L6.out; rwa [HB0.out] at this⟩
     · have htn : TP.toList.isEmpty = false := by
         rw [ByteArray.toList_eq]
         cases h1 : TP.data.toList with
         | nil => exact absurd h1 htk
         | cons _ _ => rfl
       have HTK := Lib.hid htk
       have h1 := C6.out
       unfold ConfAt at h1
       obtain ⟨x0, x1, x2⟩ := h1
       clear htk
       have hol : O.size + TP.size ≤ 200000 := by omega
       have v6 : ¬ 9223372036854775807 < O.size + TP.size := by omega
       have v7 : ¬ 9223372036854775807 < O.size + TP.size + FW.size := by omega
       have C7 := Lib.hid (C6.out.below ((Below.refl w6.heap.size w6).alloc (Nat.le_refl _) (.cells #[.int .i64 O.size, .int .i64 TP.size, .int .i64 ((O.size : Int) + (TP.size : Int)), .int .i64 FW.size, .int .i64 n, .int .i64 e, .int .i64 z, .int .i64 0] 3)))
       have L7 := Lib.hid (L6.out.alloc L6.out.size (.cells #[.int .i64 O.size, .int .i64 TP.size, .int .i64 ((O.size : Int) + (TP.size : Int)), .int .i64 FW.size, .int .i64 n, .int .i64 e, .int .i64 z, .int .i64 0] 3))
       have N7 := Lib.hid (alloc_at w6 (.cells #[.int .i64 O.size, .int .i64 TP.size, .int .i64 ((O.size : Int) + (TP.size : Int)), .int .i64 FW.size, .int .i64 n, .int .i64 e, .int .i64 z, .int .i64 0] 3))
       have h2 := C7.out
       unfold ConfAt at h2
       obtain ⟨y0, y1, y2⟩ := h2
       go_upto_if 122 with fail
       obtain ⟨g8, hg8⟩ : ∃ k, w6.heap.size = k := ⟨_, rfl⟩
       have G8 := Lib.hid (show w.heap.size ≤ g8 by rw [← hg8]; exact L6.out.size)
       obtain ⟨w7, hw7⟩ : ∃ W, w6.alloc (.cells #[.int .i64 O.size, .int .i64 TP.size, .int .i64 ((O.size : Int) + (TP.size : Int)), .int .i64 FW.size, .int .i64 n, .int .i64 e, .int .i64 z, .int .i64 0] 3) = W := ⟨_, rfl⟩
       rw [hw7, hg8] at N7
       rw [hw7] at C7 L7 y0 y1 y2 ⊢
       rw [hg8]
       clear hw7 hg8 x0 x1 x2 y0 y1 y2
       have c7 : w7.cell? ⟨g8, 7, none⟩ = some (.int .i64 0) := by simp [World.cell?, N7.out]
       have f7 : w7.frozen? ⟨g8, 7, none⟩ = false := by simp [World.frozen?, N7.out]
       go_cut [14] from 103 to 124 (fun s14 wx => s14 = .slice (some ⟨g8, 0, none⟩) 8 8 ∧ Below w.heap.size w wx ∧ wx.heap[g8]? = some (.cells #[.int .i64 O.size, .int .i64 TP.size, .int .i64 ((O.size : Int) + (TP.size : Int)), .int .i64 FW.size, .int .i64 n, .int .i64 e, .int .i64 z, .int .i64 (flag p : Nat)] 3 (0, 0)))
       case first =>
         cases p
         · go_wp2_with fail
           go_meet
           case rel => exact ⟨rfl, L7.out, N7.out⟩
         · go_wp2_with fail
           go_meet
           case rel => exact ⟨rfl, L7.out.setCell (p := ⟨g8, 7, none⟩) G8.out _, set_block (.int .i64 1) N7.out⟩
       case rest =>
         obtain ⟨rfl, l8, n8⟩ := hcut
         have L8 := Lib.hid l8
         have N8 := Lib.hid n8
         clear l8 n8 c7 f7
         obtain ⟨nums, hnums⟩ : ∃ l : List Nat, [O.size, TP.size, O.size + TP.size, FW.size, n, e, z, flag p] = l := ⟨_, rfl⟩
         have HNU := Lib.hid hnums
         have hnl : nums.length = 8 := by rw [← hnums]; rfl
         have hns : ∀ x ∈ nums, x ≤ 1000000 := by
           rw [← hnums]
           have hfl : flag p ≤ 1 := by unfold flag; split <;> omega
           intro x hx
           simp only [List.mem_cons, List.not_mem_nil, or_false] at hx
           omega
         have HNS := Lib.hid hns
         have HNL8 := Lib.hid hnl
         have HCC := Lib.hid (show ∀ (W : World), W.heap[g8]? = some (.cells #[.int .i64 O.size, .int .i64 TP.size, .int .i64 ((O.size : Int) + (TP.size : Int)), .int .i64 FW.size, .int .i64 n, .int .i64 e, .int .i64 z, .int .i64 (flag p : Nat)] 3 (0, 0)) → ∀ (k x : Nat), nums[k]? = some x → W.cell? ⟨g8, k, none⟩ = some (.int .i64 x) from fun W hW k x hk => by
           have hkl : k < 8 := by rw [← hnl]; exact (List.getElem?_eq_some_iff.1 hk).1
           rw [← hnums] at hk
           rcases (show k = 0 ∨ k = 1 ∨ k = 2 ∨ k = 3 ∨ k = 4 ∨ k = 5 ∨ k = 6 ∨ k = 7 by omega) with h | h | h | h | h | h | h | h <;> subst h <;> cases hk <;> simp [World.cell?, hW])
         obtain ⟨BB, hBB⟩ : ∃ X, (O ++ TP) ++ FW = X := ⟨_, rfl⟩
         have HBB := Lib.hid hBB
         have hbs : BB.size ≤ 300000 := by rw [← hBB, ByteArray.size_append, ByteArray.size_append]; omega
         clear hnums hnl hns
         go_wp2_with fail
         clear hBB
         go_loopw [5, 15] (fun oo ii wr => ∃ (j : Nat) (O2 : ByteArray), j ≤ 8 ∧ ii = .int .i64 j ∧ oo = .string O2 ∧ O2.size = BB.size + 4 * j ∧ Hid (O2.data.toList = BB.data.toList ++ foots (nums.take j)) ∧ Hid (Below w.heap.size w wr ∧ Below wc.heap.size wc wr)) (fun _ ii _ => 8 - (intOf ii).toNat)
         case atStart => exact ⟨0, BB, by omega, rfl, rfl, by omega, show _ = _ by simp [foots], ⟨L8.out, Below.refl _ _⟩⟩
         case round =>
           obtain ⟨j, O2, hj, rfl, rfl, ho2, HO2, HW⟩ := hrel
           by_cases hj8 : j < 8
           · obtain ⟨x, hx⟩ : ∃ x, nums[j]? = some x := ⟨_, List.getElem?_eq_getElem (by rw [HNL8.out]; exact hj8)⟩
             have cx := HCC.out wr ((HW.out.2.block g8 (Array.getElem?_eq_some_iff.1 N8.out).1).trans N8.out) j x hx
             have hxs := HNS.out x (List.mem_of_getElem? hx)
             have HFT := Lib.hid (show foots (nums.take (j + 1)) = foots (nums.take j) ++ fixB x 4 by rw [take_next hx]; unfold foots; rw [List.flatMap_append]; simp)
             have j1 : (j : Int) < 8 := by omega
             have j0 : (0 : Int) ≤ (j : Int) := by omega
             clear hx
             go_wp2_with fail
             refine (specPutFix (x : Int) 4 _ (by omega) (by omega)).mono ?_
             intro r w9 h9
             obtain ⟨F4, hF, hFs, rfl, b9⟩ := h9.text
             rw [show putFix (x : Int) 4 = fixB x 4 from putFix_in (n := x) (b := 4) (by omega) (by omega)] at hF hFs
             rw [fix_length] at hFs
             have HFF4 := Lib.hid hF
             have L9 := Lib.hid (And.intro (HW.out.1.trans (b9.mono HW.out.1.size)) (HW.out.2.trans (b9.mono HW.out.2.size)))
             have v8 : ¬ 9223372036854775807 < O2.size + F4.size := by omega
             clear h9 hF b9 cx
             go_wp2_with fail
             go_roundw
             case rel =>
               refine ⟨j + 1, O2 ++ F4, by omega, by go_num, rfl, by rw [ByteArray.size_append]; omega, ?_, L9.out⟩
               show (O2 ++ F4).data.toList = _
               rw [ByteArray.data_append, Array.toList_append, HO2.out, HFT.out, HFF4.out, List.append_assoc]
             case measure => simp [intOf]; omega
           · obtain rfl : j = 8 := by omega
             have v9 : ¬ 9223372036854775807 < O2.size + 6 := by omega
             have HT := Lib.hid (show (O2 ++ ⟨#[83, 72, 69, 76, 70, 49]⟩ : ByteArray).data.toList = putTable xs cf by
               rw [putTable, if_pos ⟨by rw [HR.out.1]; omega, HOK.out, by rw [← HCF.out]; exact HCK.out, by rw [hNB.out]; exact HST.out.2.2.1, by rw [← HTP2.out]; exact HTK.out⟩]
               rw [ByteArray.data_append, Array.toList_append, HO2.out, ← HBB.out, ByteArray.data_append, ByteArray.data_append, Array.toList_append, Array.toList_append, HST.out.1, HTP2.out, HFW2.out]
               rw [List.take_of_length_le (by have := HNL8.out; omega), ← HNU.out]
               have e1 : O.size = (outB xs cf).length := by unfold outB; rw [hNB.out, ← HST.out.1]; simp
               have e2 : TP.size = (topB xs cf).length := by rw [← HTP2.out]; simp
               have e3 : FW.size = (filB xs).length := by rw [← HFW2.out]; simp
               rw [e1, e2, e3, table_split, ← hNB.out]
               unfold footOf footB foots outB
               rw [← HCF.out, HR.out.1]
               simp [magicB])
             go_wp2_with fail
             go_ret
             exact ⟨by rw [← HT.out]; rfl, HW.out.1⟩
end Go.Proofs.Ytkomnnijnggbpaa
