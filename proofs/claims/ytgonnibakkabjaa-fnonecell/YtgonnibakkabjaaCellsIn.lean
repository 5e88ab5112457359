/- The program's iterator over the cells of entries: it yields them in order, as long as it is let. -/
import Derived.Test.YtgonnibakkabjaaTakeEntry
import Derived.Test.YtgonnibakkabjaaKeyRow
import Derived.Test.YtgonnibakkabjaaRangeT
import Derived.Test.YtgonnibakkabjaaReadKeyI
import Derived.Test.YtgonnibakkabjaaTimes
import Derived.Test.YtgonnibakkabjaaBlkHold
namespace Go.Proofs.Ytgonnibakkabjaa
open Go.RowKit Go.Shelf
set_option linter.unusedVariables false
attribute [local go_sem] Oper.semAt_some

/-- Blocks of other types than cells and their lists stay. -/
def KeepT (W W' : World) : Prop := (∀ (k : Nat) (cs : Array Value) (T : TypeId) (fz : Nat × Nat), W.heap[k]? = some (Obj.cells cs T fz) → T ≠ 38 → T ≠ 24 → W'.heap[k]? = some (Obj.cells cs T fz)) ∧ W.heap.size ≤ W'.heap.size
theorem part_text (s : ByteArray) (a n : Nat) : (s.extract a (a + n)).data.toList = (s.data.toList.drop a).take n := by
  simp only [ByteArray.data_extract, Array.toList_extract, List.extract_eq_take_drop]
  congr 1
  omega

set_option maxRecDepth 100000 in
set_option maxHeartbeats 4000000 in
theorem cells_in (n l Bt : Nat) (s : ByteArray) (hs : s.size ≤ 1048576) (J Jx : List Cel → World → Prop)
    (hY : ∀ pre x W, J pre W → pre.length ≤ s.size → YieldAt Fence.wide (n - 1) Try.prog l #[celVal x] W fun e' W' =>
      (e' = .returned (.bool true) ∧ (J (pre ++ [x]) W' ∧ KeepT W W')) ∨ (e' = .returned (.bool false) ∧ Jx (pre ++ [x]) W'))
    (W : World) (hJ : AbidesT 74 W.heap.size J) (ht : W.cell? ⟨Bt, 0, none⟩ = some (.string s)) (h0 : J [] W) :
    CallsIn Fence.wide n Try.prog 77 #[.func (.yield l) #[] #[], .pointer (some ⟨Bt, 0, none⟩)] W fun e' W' => (∃ v, e' = .returned v) ∧
      ((∃ ys, Ended s.data.toList ys ∧ J ys W') ∨ (∃ pre, (∃ key a, Rd s.data.toList pre key a) ∧ Jx pre W')) := by
  have HLL := Lib.hid (show s.data.toList.length = s.size by simp)
  have HY := Lib.hid hY
  have H0 := Lib.hid (hJ _ _ (W.alloc (.cells #[.string s, .int .i64 0] 74)) none h0 (World.grownBy_alloc W _ none) (fun _ h => by cases h))
  have R0 := Lib.hid (rd_new W s 0)
  have HJ := Lib.hid hJ
  clear hY h0 hJ
  refine callsIn_of_wp Try.func77 rfl trivial ?_ rfl
  simp only [Try.ntmps77, List.size_toArray, List.length_cons, List.length_nil, Nat.reduceAdd, Nat.reduceSub, Array.replicate_succ, Array.replicate_zero, List.push_toArray, List.append_toArray, List.nil_append, List.cons_append]
  gi_wp2
  clear ht
  obtain ⟨c, hc⟩ : ∃ c, W.heap.size = c := ⟨_, rfl⟩
  rw [hc] at HJ R0 ⊢
  clear hc
  gi_loopw [4] (fun v wr => ∃ (pre : List Cel) (key : List UInt8) (a : Nat), a ≤ s.size ∧ wr.cell? ⟨c, 1, none⟩ = some (.int .i64 a) ∧ Hid (Rd s.data.toList pre key a ∧ RdAt wr c s a ∧ KeyAt wr v key ∧ J pre wr))
    (fun _ wr => match wr.cell? ⟨c, 1, none⟩ with | some (.int _ a) => s.size - a.toNat | _ => 0)
  case atStart => exact ⟨[], [], 0, by omega, R0.out.cells.2.1, ⟨Rd.nil, R0.out, .inl ⟨rfl, rfl⟩, H0.out⟩⟩
  case round =>
    obtain ⟨pre, key, a, ha, hca, HX⟩ := hrel
    have HCA := Lib.hid hca
    have HPL := Lib.hid (show pre.length ≤ s.size by have := rd_len HX.out.1; rw [HLL.out] at this; omega)
    have hkl : key.length ≤ a := (rd_len HX.out.1).1
    clear hca
    gi_wp2_with fail
    refine ⟨trivial, (fun h => by cases h), ?_⟩
    refine (callsIn_wide.2 (takeEntry_at c s a _ HX.out.2.1 hs ha)).mono ?_
    rintro e' w1 ⟨hg1, (⟨sh, m, z, a3, hrd, rfl, hr1⟩ | ⟨hrd, n1, X, b1, V, rfl⟩)⟩
    · have hb := rd_some hrd
      rw [HLL.out] at hb
      obtain ⟨q1, q2, q3, q4, q5⟩ := hb
      have HRD := Lib.hid hrd
      obtain ⟨X, hX⟩ : ∃ X, s.extract a3 (a3 + m) = X := ⟨_, rfl⟩
      obtain ⟨V, hV⟩ : ∃ V, s.extract (a3 + m) (a3 + m + z / 2) = V := ⟨_, rfl⟩
      obtain ⟨G, hG⟩ : ∃ G, decide (z % 2 = 1) = G := ⟨_, rfl⟩
      rw [hX, hV, hG]
      have HXL := Lib.hid (show X.data.toList = (s.data.toList.drop a3).take m by rw [← hX]; exact part_text _ _ _)
      have HVL := Lib.hid (show V.data.toList = (s.data.toList.drop (a3 + m)).take (z / 2) by rw [← hV]; exact part_text _ _ _)
      have HGG := Lib.hid hG
      have hXs : X.size ≤ m := by rw [← hX, ByteArray.size_extract]; omega
      have K1 := Lib.hid (HX.out.2.2.1.keep (W' := w1) (fun g cur hg => keptT hg1 (T := 74) (fun r e => by cases e; exact ⟨_, _, HX.out.2.1⟩) hg (fun cs fz h => by cases h)))
      have RR1 := Lib.hid hr1
      have GG1 := Lib.hid hg1
      have B2 := Lib.hid (one_below w1 (.cells #[.int .i64 sh, .string X, .bool G, .string V] 65))
      have E1 := Lib.hid (alloc_at w1 (.cells #[.int .i64 sh, .string X, .bool G, .string V] 65))
      have KK := Lib.hid (K1.out.below B2.out)
      have RR := Lib.hid ((B2.out.block c hr1.lt).trans hr1)
      have GG := Lib.hid (grown_then hg1 B2.out)
      clear hrd hr1 hg1 hX hV hG K1
      obtain ⟨ad, cap, hv, hcap⟩ := KK.out.form
      rename_i v0 _ _ _
      subst hv
      by_cases hsh : sh ≤ key.length
      · have d1 : ¬ (key.length : Int) < (sh : Int) := by omega
        obtain ⟨f0, f1, f2, f3⟩ := blk4 E1.out
        gi_wp2_with fail
        clear f0 f1 f2 f3
        obtain ⟨w2, hw2⟩ : ∃ w2, w1.alloc (.cells #[.int .i64 sh, .string X, .bool G, .string V] 65) = w2 := ⟨_, rfl⟩
        obtain ⟨E, hE⟩ : ∃ E, w1.heap.size = E := ⟨_, rfl⟩
        rw [hw2, hE] at E1
        rw [hw2] at KK RR GG
        rw [hw2, hE]
        clear hw2 hE B2 RR1 GG1
        --%REG4
        refine wpIn_wide.2 ?_
        refine wp_region_held_drew (S := fun w' => w'.heap[E]? = some (.cells #[.int .i64 sh, .string X, .bool G, .string V] 65 (0, 0)) ∧ KeyAt w' (.slice ad key.length cap) key ∧ RdAt w' c s (a3 + m + z / 2 : Nat) ∧ wr.grownBy w' (some c)) (by kernel_rfl) ⟨E1.out, KK.out, RR.out, GG.out.trans (grown_drewN w2 1 (some c))⟩ (fun hHeld => ?_)
        refine takeS_at (i := 0) (d := some 25) (v := ?_) rfl rfl (by kernel_rfl) (by kernel_rfl) (by kernel_rfl) (fun _ _ _ h => h) (by rfl) ?hy hHeld ?_
        case hy => (intro w' hS; clear hS; go_simp <;> with_reducible rfl)
        simp only [Act.put, List.setIfInBounds_toArray, List.set_cons_zero, List.set_cons_succ]
        refine takeS_at (i := 1) (d := some 26) (v := ?_) rfl rfl (by kernel_rfl) (by kernel_rfl) (by kernel_rfl) (fun _ _ _ h => h) (by rfl) ?hy hHeld ?_
        case hy => (intro w' hS; clear hS; go_simp <;> with_reducible rfl)
        simp only [Act.put, List.setIfInBounds_toArray, List.set_cons_zero, List.set_cons_succ]
        refine takeS_at (i := 2) (d := some 27) (v := ?_) rfl rfl (by kernel_rfl) (by kernel_rfl) (by kernel_rfl) (fun _ _ _ h => h) (by rfl) ?hy hHeld ?_
        case hy => (intro w' hS; have h := (blk4 hS.1).1; clear hS; go_simp <;> with_reducible rfl)
        simp only [Act.put, List.setIfInBounds_toArray, List.set_cons_zero, List.set_cons_succ]
        refine takeS_at (i := 3) (d := some 28) (v := ?_) rfl rfl (by kernel_rfl) (by kernel_rfl) (by kernel_rfl) (fun _ _ _ h => h) (by rfl) ?hy hHeld ?_
        case hy => (intro w' hS; clear hS; go_simp <;> with_reducible rfl)
        simp only [Act.put, List.setIfInBounds_toArray, List.set_cons_zero, List.set_cons_succ]
        refine takeS_at (i := 4) (d := some 29) (v := ?_) rfl rfl (by kernel_rfl) (by kernel_rfl) (by kernel_rfl) (fun _ _ _ h => h) (by rfl) ?hy hHeld ?_
        case hy => (intro w' hS; have h := (blk4 hS.1).1; clear hS; go_simp <;> with_reducible rfl)
        simp only [Act.put, List.setIfInBounds_toArray, List.set_cons_zero, List.set_cons_succ]
        refine takeS_at (i := 5) (d := some 30) (v := ?_) rfl rfl (by kernel_rfl) (by kernel_rfl) (by kernel_rfl) (fun _ _ _ h => h) (by rfl) ?hy hHeld ?_
        case hy => (intro w' hS; have h := cut_run w' ad key.length cap sh hsh hcap; clear hS; go_simp <;> with_reducible rfl)
        simp only [Act.put, List.setIfInBounds_toArray, List.set_cons_zero, List.set_cons_succ]
        refine takeS_at (i := 6) (d := some 31) (v := ?_) rfl rfl (by kernel_rfl) (by kernel_rfl) (by kernel_rfl) (fun _ _ _ h => h) (by rfl) ?hy hHeld ?_
        case hy => (intro w' hS; clear hS; go_simp <;> with_reducible rfl)
        simp only [Act.put, List.setIfInBounds_toArray, List.set_cons_zero, List.set_cons_succ]
        refine takeS_at (i := 7) (d := some 32) (v := ?_) rfl rfl (by kernel_rfl) (by kernel_rfl) (by kernel_rfl) (fun _ _ _ h => h) (by rfl) ?hy hHeld ?_
        case hy => (intro w' hS; have h := (blk4 hS.1).2.1; clear hS; go_simp <;> with_reducible rfl)
        simp only [Act.put, List.setIfInBounds_toArray, List.set_cons_zero, List.set_cons_succ]
        refine wpAnyH_ready (rs := [8]) (by kernel_rfl) (by simp) ?_
        refine AllReadyH.cons rfl (fun K hK => ?_) AllReadyH.nil
        refine op_key (ad := ad) (cap := cap) (sh := sh) (key := key) X _ _ rfl rfl rfl rfl hHeld.2.1 hsh (by omega) ?_
        intro v3 w3 k3 b3
        have S3 := Lib.hid (And.intro ((b3.block E (Array.getElem?_eq_some_iff.1 hHeld.1).1).trans hHeld.1) (And.intro (hHeld.2.1.below b3) (And.intro ((b3.block c hHeld.2.2.1.lt).trans hHeld.2.2.1) (grown_then hHeld.2.2.2 b3))))
        have K3 := Lib.hid k3
        clear k3 b3
        refine hK.out _ _ S3.out (fun hHeld => ?_)
        clear hK K
        refine takeS_at (i := 9) (d := some 4) (v := ?_) rfl rfl (by kernel_rfl) (by kernel_rfl) (by kernel_rfl) (fun _ _ _ h => h) (by rfl) ?hy hHeld ?_
        case hy => (intro w' hS; clear hS; go_simp <;> with_reducible rfl)
        simp only [Act.put, List.setIfInBounds_toArray]
        refine wpAnyH_done (by kernel_rfl) ?_ _
        --%END4
        clear KK RR GG E1
        obtain ⟨key2, hk2⟩ : ∃ k, key.take sh ++ X.data.toList = k := ⟨_, rfl⟩
        rw [hk2] at K3
        have HK2 := Lib.hid (show key2 = key.take sh ++ (s.data.toList.drop a3).take m by rw [← hk2, HXL.out])
        have hk2l : key2.length ≤ 1048576 := by
          rw [← hk2, List.length_append, List.length_take]
          have : X.data.toList.length = X.size := by simp
          omega
        clear hk2
        obtain ⟨KT, hKT, hKs⟩ := text_of key2
        have hcv := keyAt_text K3.out
        rw [as_text hKT] at hcv
        have HKT := Lib.hid hKT
        clear hKT
        gi_wp2_with fail
        refine ⟨trivial, (fun h => by cases h), ?_⟩
        refine (callsIn_wide.2 (implReadKey KT (by omega) _)).mono ?_
        rintro e' w4 ⟨R, C, t, hri, rfl, hb4⟩
        rw [HKT.out] at hri
        have HST := Lib.hid (show Step s.data.toList a key ⟨R, C, t, G, V⟩ key2 (a3 + m + z / 2) from ⟨sh, m, z, a3, HRD.out, hsh, HK2.out, hri, HGG.out.symm, HVL.out, rfl⟩)
        have E4 := Lib.hid ((hb4.block E (Array.getElem?_eq_some_iff.1 S3.out.1).1).trans S3.out.1)
        have R4 := Lib.hid ((hb4.block c (Array.getElem?_eq_some_iff.1 S3.out.2.2.1).1).trans S3.out.2.2.1)
        have K4 := Lib.hid (K3.out.below hb4)
        have HJ4 := Lib.hid (HJ.out pre wr w4 (some c) HX.out.2.2.2 (grown_then S3.out.2.2.2 hb4) (fun r e => by cases e; exact ⟨Nat.le_refl _, _, _, HX.out.2.1⟩))
        clear hri hb4 hcv S3 K3
        obtain ⟨f0, f1, f2, f3⟩ := blk4 E4.out
        by_cases ht : t < 0
        · have HEN := Lib.hid (show Ended s.data.toList pre from ⟨key, a, HX.out.1, .inr ⟨_, _, _, HST.out, ht⟩⟩)
          gi_wp2
          refine ⟨(fun f h => by cases h), ?_⟩
          gi_wp2
          exact bodyPost_ret (results_none rfl _ _ _) rfl ⟨⟨_, rfl⟩, .inl ⟨pre, HEN.out, HJ4.out⟩⟩
        · obtain ⟨fn, tmps, assign, body, hy, hR⟩ := HY.out pre ⟨R, C, t, G, V⟩ w4 HJ4.out HPL.out
          unfold celVal at hy
          have ht' : ¬ t < 0 := ht
          gi_wp2_with fail
          refine ⟨(fun h => by cases h), hR.mono ?_⟩
          clear hy hR
          rintro e' W5 (⟨rfl, hJ5, hk5⟩ | ⟨rfl, hJx5⟩)
          · have R5 := Lib.hid (show RdAt W5 c s (a3 + m + z / 2 : Nat) from hk5.1 c _ _ _ R4.out (by decide) (by decide))
            have K5 := Lib.hid (K4.out.keep (W' := W5) (fun g cur hg => hk5.1 g _ _ _ hg (by decide) (by decide)))
            have J5 := Lib.hid hJ5
            clear hJ5 hk5 f0 f1 f2 f3
            gi_wp2
            go_roundw
            case rel => exact ⟨pre ++ [⟨R, C, t, G, V⟩], key2, a3 + m + z / 2, q2, R5.out.cells.2.1, ⟨Rd.snoc HX.out.1 HST.out, R5.out, K5.out, J5.out⟩⟩
            case measure =>
              rw [HCA.out, R5.out.cells.2.1]
              simp only [Int.toNat_natCast]
              omega
          · have HXX := Lib.hid hJx5
            clear hJx5 f0 f1 f2 f3
            gi_wp2
            exact bodyPost_ret (results_none rfl _ _ _) rfl ⟨⟨_, rfl⟩, .inr ⟨_, ⟨_, _, Rd.snoc HX.out.1 HST.out⟩, HXX.out⟩⟩
      · have d1 : (key.length : Int) < (sh : Int) := by omega
        obtain ⟨f0, f1, f2, f3⟩ := blk4 E1.out
        have HJ2 := Lib.hid (HJ.out pre wr _ (some c) HX.out.2.2.2 GG.out (fun r e => by cases e; exact ⟨Nat.le_refl _, _, _, HX.out.2.1⟩))
        have HEN := Lib.hid (show Ended s.data.toList pre from ⟨key, a, HX.out.1, .inl (step_far HRD.out (by omega))⟩)
        gi_wp2
        exact bodyPost_ret (results_none rfl _ _ _) rfl ⟨⟨_, rfl⟩, .inl ⟨pre, HEN.out, HJ2.out⟩⟩
    · have HEN := Lib.hid (show Ended s.data.toList pre from ⟨key, a, HX.out.1, .inl (step_no hrd)⟩)
      have HJ2 := Lib.hid (HJ.out pre wr _ (some c) HX.out.2.2.2 (grown_then hg1 (one_below w1 (.cells #[.int .i64 n1, .string X, .bool b1, .string V] 65))) (fun r e => by cases e; exact ⟨Nat.le_refl _, _, _, HX.out.2.1⟩))
      clear hrd hg1
      gi_wp2
      exact bodyPost_ret (results_none rfl _ _ _) rfl ⟨⟨_, rfl⟩, .inl ⟨pre, HEN.out, HJ2.out⟩⟩
end Go.Proofs.Ytgonnibakkabjaa
