/- The walk of the law FnBlock: cells come back from a block. -/
import Derived.Test.YtgonnibakkabjaaDrawPut
import Derived.Test.YtgonnibakkabjaaGetA
import Derived.Test.YtgonnibakkabjaaSameCels
import Derived.Test.YtgonnibakkabjaaTake
import Derived.Test.YtgonnibakkabjaaLawA
namespace Go.Proofs.Ytgonnibakkabjaa
open Go.RowKit
set_option linter.unusedVariables false

theorem not_empty {A : ByteArray} (h : A.data.toList ≠ []) : A.toList.isEmpty = false := by
  rw [ByteArray.toList_eq]
  cases h1 : A.data.toList with
  | nil => exact absurd h1 h
  | cons _ _ => rfl
set_option maxHeartbeats 4000000 in
set_option maxRecDepth 100000 in
theorem fnBlock_walk (a0 : Option Addr) (len0 cap0 : Nat) (z0 : List Int) (w : World) (w0 : IsRow .u8 w a0 len0 cap0 z0) :
    Calls Try.prog 3 #[.slice a0 len0 cap0] w fun e w' => e = .returned (.bool true) ∧ Below w.heap.size w w' := by
  have HR := Lib.hid (bytes_of_row w0 w.heap.size (Nat.le_refl _))
  clear w0
  by_cases hbig : len0 ≤ 1048576
  · go_enter Try.func3, Try.ntmps3
    go_wp2_with fail
    refine (big_no a0 len0 cap0 _ hbig).mono ?_
    rintro e w1 ⟨rfl, rfl⟩
    go_wp2_with fail
    refine (drawPutBlock_at a0 len0 cap0 z0 _ HR.out).mono ?_
    rintro e w1 ⟨ad, n, c, ys, ev, rfl, hn, row1, hf, he0, he1, b1⟩
    have R1 := Lib.hid row1
    have B1 := Lib.hid b1
    have HF := Lib.hid hf
    have HL := Lib.hid row1.1
    have hnc := row1.2.1
    obtain ⟨A, hA, hAl⟩ := text_of (putBlock ys ev)
    have HAT := Lib.hid (as_text hA)
    have hA20 : A.size ≤ 1048576 := by have := put_len ys ev; rw [row1.1] at this; omega
    have HA := Lib.hid hA
    have hsame := same_beq A
    clear row1 b1 hf hA hAl
    go_wp2_with fail
    refine (implPutBlock ad n c ys ev (by omega) HF.out _ R1.out).mono ?_
    rintro e w2 ⟨rfl, b2⟩
    rw [HAT.out]
    have R2 := Lib.hid (R1.out.below b2)
    have B2 := Lib.hid (B1.out.trans (b2.mono B1.out.size))
    clear b2
    go_wp2_with fail
    refine (specPutBlock ad n c ys ev (by omega) HF.out _ R2.out).mono ?_
    rintro e w3 ⟨rfl, b3⟩
    rw [HAT.out]
    have R3 := Lib.hid (R2.out.below b3)
    have B3 := Lib.hid (B2.out.trans (b3.mono B2.out.size))
    clear b3
    go_wp2_with fail
    refine (implGetBlock A ev hA20 _).mono ?_
    rintro e w4 ⟨v, r, ok, rfl, hg, ho, b4⟩
    have B4 := Lib.hid (B3.out.trans (b4.mono B3.out.size))
    obtain ⟨ad2, cap2, rfl⟩ := own_slice ho
    by_cases he : A.data.toList = []
    · have hAe : A = ⟨#[]⟩ := bytes_ext (by rw [he])
      rcases hg with ⟨_, _, h2⟩ | ⟨rfl, rfl, _⟩
      · exact absurd he h2
      · clear ho b4
        subst hAe
        clear hsame he
        go_wp2
        go_ret
        exact ⟨rfl, B4.out⟩
    · have hgt : Got A.data.toList ev ys true := .inl ⟨rfl, HA.out.symm, he⟩
      obtain ⟨rfl, rfl⟩ := got_one hgt hg
      obtain ⟨e, rfl, e1, e16, h50, _, hblk⟩ := block_ok (xs := ys) (every := ev) (by rw [← HA.out]; exact he)
      have E4 := Lib.hid (show CelRow w4 ad2 n cap2 ys ∧ CelRow w4 ad n c ys from ⟨by have := ho.row; rwa [HL.out] at this, R3.out.below b4⟩)
      have hie := not_empty he
      obtain ⟨q, hq⟩ : ∃ q, (n + e - 1) / e = q := ⟨_, rfl⟩
      have hqn : q ≤ 70 := by rw [← hq]; exact Nat.le_trans (Nat.div_le_self _ _) (by omega)
      have hqi : ((n : Int) + (e : Int) - 1) / (e : Int) = (q : Int) := by
        rw [← hq, Int.natCast_ediv]
        congr 1
        omega
      have hqw : IntKind.i64.wrap (q : Int) = (q : Int) := IntWalk.i64_in _ (by omega)
      have HGF := Lib.hid (show getFix A.data.toList ((A.size : Int) - 2) 2 = (q : Int) by
        have h1 := block_count (xs := ys) e1 e16 h50
        rw [← hblk, ← HA.out, HL.out, hq] at h1
        have h2 : A.data.toList.length = A.size := by simp
        rwa [h2] at h1)
      have hne0 : ¬ e = 0 := by omega
      have HW2 := Lib.hid (show IntKind.i64.wrap ((A.size : Int) - 2) = (A.size : Int) - 2 from IntWalk.i64_in _ (by omega))
      have HWR := Lib.hid (show IntKind.i64.wrap ((IntKind.i64.wrap (IntKind.i64.wrap ((n : Int) + (e : Int)) - 1)).tdiv (e : Int)) = (q : Int) by
        rw [IntWalk.i64_in ((n : Int) + (e : Int)) (by omega), IntWalk.i64_in ((n : Int) + (e : Int) - 1) (by omega), Int.tdiv_eq_ediv_of_nonneg (by omega), hqi, hqw])
      have hln : ys.length = n := HL.out
      rw [hln]
      clear hgt hg ho b4 hblk hq h50 he hln hqi hqw
      go_wp2_with fail
      refine wp_region_held_drew (S := fun W => CelRow W ad2 n cap2 ys ∧ CelRow W ad n c ys) (by kernel_rfl) E4.out (fun hHeld => ?_)
      refine takeS_at (i := 0) (d := some 38) (v := ?_) rfl rfl (by kernel_rfl) (by kernel_rfl) (by kernel_rfl) (fun _ _ _ h => h) (by rfl) ?hy hHeld ?_
      case hy => (intro w' hS; clear hS; go_simp <;> with_reducible rfl)
      simp only [Act.put, List.setIfInBounds_toArray, List.set_cons_zero, List.set_cons_succ]
      refine takeS_at (i := 1) (d := some 39) (v := ?_) rfl rfl (by kernel_rfl) (by kernel_rfl) (by kernel_rfl) (fun _ _ _ h => h) (by rfl) ?hy hHeld ?_
      case hy => (intro w' hS; clear hS; go_simp <;> with_reducible rfl)
      simp only [Act.put, List.setIfInBounds_toArray, List.set_cons_zero, List.set_cons_succ]
      refine takeS_at (i := 2) (d := some 40) (v := ?_) rfl rfl (by kernel_rfl) (by kernel_rfl) (by kernel_rfl) (fun _ _ _ h => h) (by rfl) ?hy hHeld ?_
      case hy => (intro w' hS; clear hS; go_simp <;> with_reducible rfl)
      simp only [Act.put, List.setIfInBounds_toArray, List.set_cons_zero, List.set_cons_succ]
      refine takeS_at (i := 3) (d := some 41) (v := ?_) rfl rfl (by kernel_rfl) (by kernel_rfl) (by kernel_rfl) (fun _ _ _ h => h) (by rfl) ?hy hHeld ?_
      case hy => (intro w' hS; clear hS; go_simp <;> with_reducible rfl)
      simp only [Act.put, List.setIfInBounds_toArray, List.set_cons_zero, List.set_cons_succ]
      refine wpAnyH_ready (rs := [4]) (by kernel_rfl) (by simp) ?_
      refine AllReadyH.cons rfl (fun K hK => ?_) AllReadyH.nil
      go_simp
      refine (sameCells_same ad2 ad n cap2 c ys (by omega) _ (E4.out.1.below (below_draws 1)) (E4.out.2.below (below_draws 1))).mono ?_
      rintro e w5 ⟨rfl, hb5⟩
      have E5 := Lib.hid (show CelRow w5 ad2 n cap2 ys ∧ CelRow w5 ad n c ys from ⟨(E4.out.1.below (below_draws 1)).below hb5, (E4.out.2.below (below_draws 1)).below hb5⟩)
      have Q5 := Lib.hid ((B4.out.trans (below_draws 1)).trans (hb5.mono (by have := B4.out.size; simpa using this)))
      clear hb5
      go_wp2_with fail
      refine hK.out _ _ E5.out (fun hHeld => ?_)
      clear hK K
      refine takeS_at (i := 5) (d := some 43) (v := ?_) rfl rfl (by kernel_rfl) (by kernel_rfl) (by kernel_rfl) (fun _ _ _ h => h) (by rfl) ?hy hHeld ?_
      case hy => (intro w' hS; clear hS; go_simp <;> with_reducible rfl)
      simp only [Act.put, List.setIfInBounds_toArray, List.set_cons_zero, List.set_cons_succ]
      refine takeS_at (i := 6) (d := some 44) (v := ?_) rfl rfl (by kernel_rfl) (by kernel_rfl) (by kernel_rfl) (fun _ _ _ h => h) (by rfl) ?hy hHeld ?_
      case hy => (intro w' hS; clear hS; go_simp <;> with_reducible rfl)
      simp only [Act.put, List.setIfInBounds_toArray, List.set_cons_zero, List.set_cons_succ]
      refine takeS_at (i := 7) (d := some 45) (v := ?_) rfl rfl (by kernel_rfl) (by kernel_rfl) (by kernel_rfl) (fun _ _ _ h => h) (by rfl) ?hy hHeld ?_
      case hy => (intro w' hS; clear hS; go_simp <;> with_reducible rfl)
      simp only [Act.put, List.setIfInBounds_toArray, List.set_cons_zero, List.set_cons_succ]
      refine takeS_at (i := 8) (d := some 46) (v := ?_) rfl rfl (by kernel_rfl) (by kernel_rfl) (by kernel_rfl) (fun _ _ _ h => h) (by rfl) ?hy hHeld ?_
      case hy => (intro w' hS; clear hS; go_simp <;> with_reducible rfl)
      simp only [Act.put, List.setIfInBounds_toArray, List.set_cons_zero, List.set_cons_succ]
      refine takeS_at (i := 9) (d := some 47) (v := ?_) rfl rfl (by kernel_rfl) (by kernel_rfl) (by kernel_rfl) (fun _ _ _ h => h) (by rfl) ?hy hHeld ?_
      case hy => (intro w' hS; clear hS; go_simp <;> with_reducible rfl)
      simp only [Act.put, List.setIfInBounds_toArray, List.set_cons_zero, List.set_cons_succ]
      refine takeS_at (i := 10) (d := some 48) (v := ?_) rfl rfl (by kernel_rfl) (by kernel_rfl) (by kernel_rfl) (fun _ _ _ h => h) (by rfl) ?hy hHeld ?_
      case hy => (intro w' hS; clear hS; go_simp <;> with_reducible rfl)
      simp only [Act.put, List.setIfInBounds_toArray, List.set_cons_zero, List.set_cons_succ]
      refine takeS_at (i := 12) (d := some 50) (v := ?_) rfl rfl (by kernel_rfl) (by kernel_rfl) (by kernel_rfl) (fun _ _ _ h => h) (by rfl) ?hy hHeld ?_
      case hy => (intro w' hS; clear hS; go_simp <;> with_reducible rfl)
      simp only [Act.put, List.setIfInBounds_toArray, List.set_cons_zero, List.set_cons_succ]
      refine takeS_at (i := 13) (d := some 51) (v := ?_) rfl rfl (by kernel_rfl) (by kernel_rfl) (by kernel_rfl) (fun _ _ _ h => h) (by rfl) ?hy hHeld ?_
      case hy => (intro w' hS; clear hS; go_simp <;> with_reducible rfl)
      simp only [Act.put, List.setIfInBounds_toArray, List.set_cons_zero, List.set_cons_succ]
      refine takeS_at (i := 14) (d := some 52) (v := ?_) rfl rfl (by kernel_rfl) (by kernel_rfl) (by kernel_rfl) (fun _ _ _ h => h) (by rfl) ?hy hHeld ?_
      case hy => (intro w' hS; clear hS; go_simp <;> with_reducible rfl)
      simp only [Act.put, List.setIfInBounds_toArray, List.set_cons_zero, List.set_cons_succ]
      refine takeS_at (i := 15) (d := some 53) (v := ?_) rfl rfl (by kernel_rfl) (by kernel_rfl) (by kernel_rfl) (fun _ _ _ h => h) (by rfl) ?hy hHeld ?_
      case hy => (intro w' hS; clear hS; go_simp <;> with_reducible rfl)
      simp only [Act.put, List.setIfInBounds_toArray, List.set_cons_zero, List.set_cons_succ]
      refine takeS_at (i := 16) (d := some 54) (v := ?_) rfl rfl (by kernel_rfl) (by kernel_rfl) (by kernel_rfl) (fun _ _ _ h => h) (by rfl) ?hy hHeld ?_
      case hy => (intro w' hS; clear hS; go_simp <;> with_reducible rfl)
      simp only [Act.put, List.setIfInBounds_toArray, List.set_cons_zero, List.set_cons_succ]
      refine takeS_at (i := 17) (d := some 55) (v := ?_) rfl rfl (by kernel_rfl) (by kernel_rfl) (by kernel_rfl) (fun _ _ _ h => h) (by rfl) ?hy hHeld ?_
      case hy => (intro w' hS; clear hS; go_simp <;> with_reducible rfl)
      simp only [Act.put, List.setIfInBounds_toArray, List.set_cons_zero, List.set_cons_succ]
      refine takeS_at (i := 18) (d := some 56) (v := ?_) rfl rfl (by kernel_rfl) (by kernel_rfl) (by kernel_rfl) (fun _ _ _ h => h) (by rfl) ?hy hHeld ?_
      case hy => (intro w' hS; clear hS; go_simp; rw [HWR.out])
      simp only [Act.put, List.setIfInBounds_toArray, List.set_cons_zero, List.set_cons_succ]
      refine wpAnyH_ready (rs := [11]) (by kernel_rfl) (by simp) ?_
      refine AllReadyH.cons rfl (fun K hK => ?_) AllReadyH.nil
      go_simp
      first | rw [HW2.out] | skip
      refine (implGetFix A ((A.size : Int) - 2) 2 _ (by unfold maxLen; omega)).mono ?_
      rw [HGF.out]
      rintro e w6 ⟨rfl, hb6⟩
      have E6 := Lib.hid (show CelRow w6 ad2 n cap2 ys ∧ CelRow w6 ad n c ys from ⟨E5.out.1.below hb6, E5.out.2.below hb6⟩)
      have Q6 := Lib.hid (Q5.out.trans (hb6.mono Q5.out.size))
      clear hb6
      go_wp2_with fail
      refine hK.out _ _ E6.out (fun hHeld => ?_)
      clear hK K
      refine takeS_at (i := 19) (d := some 57) (v := ?_) rfl rfl (by kernel_rfl) (by kernel_rfl) (by kernel_rfl) (fun _ _ _ h => h) (by rfl) ?hy hHeld ?_
      case hy => (intro w' hS; clear hS; go_simp <;> with_reducible rfl)
      simp only [Act.put, List.setIfInBounds_toArray, List.set_cons_zero, List.set_cons_succ]
      refine takeS_at (i := 20) (d := some 58) (v := ?_) rfl rfl (by kernel_rfl) (by kernel_rfl) (by kernel_rfl) (fun _ _ _ h => h) (by rfl) ?hy hHeld ?_
      case hy => (intro w' hS; clear hS; go_simp <;> with_reducible rfl)
      simp only [Act.put, List.setIfInBounds_toArray, List.set_cons_zero, List.set_cons_succ]
      refine takeS_at (i := 21) (d := some 2) (v := ?_) rfl rfl (by kernel_rfl) (by kernel_rfl) (by kernel_rfl) (fun _ _ _ h => h) (by rfl) ?hy hHeld ?_
      case hy => (intro w' hS; clear hS; go_simp <;> with_reducible rfl)
      simp only [Act.put, List.setIfInBounds_toArray, List.set_cons_zero, List.set_cons_succ]
      refine wpAnyH_done (by kernel_rfl) ?_ _
      go_wp2_with fail
      go_ret
      exact ⟨ret_bool (by simp), Q6.out⟩
  · go_enter Try.func3, Try.ntmps3
    go_wp2_with fail
    refine (big_yes a0 len0 cap0 _ hbig).mono ?_
    rintro e w1 ⟨rfl, rfl⟩
    go_wp2
    go_ret
    exact ⟨rfl, Below.refl _ _⟩
end Go.Proofs.Ytgonnibakkabjaa
