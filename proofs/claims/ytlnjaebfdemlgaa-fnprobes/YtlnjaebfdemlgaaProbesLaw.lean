/- The walk of the law FnProbes: a key has six places within a filter. -/
import Derived.Test.YtlnjaebfdemlgaaFilI
import Derived.Test.YtlnjaebfdemlgaaDrawKeys
import Derived.Test.YtlnjaebfdemlgaaSameInts
import Derived.Test.YtlnjaebfdemlgaaTake
import Derived.Test.YtlnjaebfdemlgaaLawA
namespace Go.Proofs.Ytlnjaebfdemlgaa
open Go.RowKit
set_option linter.unusedVariables false

theorem below_cell {w w' : World} {g k : Nat} {v : Value} (h : w.cell? ⟨g, k, none⟩ = some v) (hb : Below w.heap.size w w') : w'.cell? ⟨g, k, none⟩ = some v := (hb.cell (p := ⟨g, k, none⟩) (cell_lt h)).trans h

set_option maxHeartbeats 4000000 in
set_option maxRecDepth 100000 in
theorem fnProbes_walk (a0 : Option Addr) (len0 cap0 : Nat) (z0 : List Int) (w : World) (w0 : IsRow .u8 w a0 len0 cap0 z0) :
    Calls Try.prog 4 #[.slice a0 len0 cap0] w fun e w' => e = .returned (.bool true) ∧ Below w.heap.size w w' := by
  have HR := Lib.hid (bytes_of_row w0 w.heap.size (Nat.le_refl _))
  clear w0
  by_cases hbig : len0 ≤ 1048576
  · go_enter Try.func4, Try.ntmps4
    go_wp2_with fail
    refine (big_no a0 len0 cap0 _ hbig).mono ?_
    rintro e w1 ⟨rfl, rfl⟩
    go_wp2_with fail
    refine (drawProbes_at a0 len0 cap0 z0 _ HR.out).mono ?_
    rintro e w1 ⟨s, b, rfl, hs, hb0, hb1, b1⟩
    have B1 := Lib.hid b1
    have HR1 := Lib.hid (below_bytes HR.out b1)
    have HSM := Lib.hid (show s.size ≤ maxLen from Nat.le_trans hs (by unfold maxLen; omega))
    obtain ⟨ps, hps⟩ : ∃ ps, probes s.data.toList b = ps := ⟨_, rfl⟩
    have HPS := Lib.hid hps
    have hn6 : ps.length ≤ 6 := by rw [← hps]; exact probes_len _ _
    obtain ⟨n, hn⟩ : ∃ n, (nums ps).length = n := ⟨_, rfl⟩
    have HN := Lib.hid hn
    have hn7 : n ≤ 6 := by rw [← hn, nums_len]; exact hn6
    clear b1 hps hn hn6
    go_wp2_with fail
    refine (implProbes s b _ HSM.out).mono ?_
    rw [HPS.out]
    rintro e w2 ⟨v2, rfl, o2, b2⟩
    obtain ⟨ad, c, rfl⟩ := o2.form
    rw [HN.out] at o2 ⊢
    have R2 := Lib.hid o2.row
    have hnc := o2.row.2.1
    have B2 := Lib.hid (B1.out.trans (b2.mono B1.out.size))
    have HR2 := Lib.hid (below_bytes HR.out B2.out)
    clear o2 b2
    go_wp2_with fail
    refine (drawHash_at a0 len0 cap0 z0 _ HR2.out).mono ?_
    rintro e w3 ⟨t, rfl, ht, b3⟩
    have R3 := Lib.hid (R2.out.below b3)
    have B3 := Lib.hid (B2.out.trans (b3.mono B2.out.size))
    have HTM := Lib.hid (show t.size ≤ maxLen from Nat.le_trans ht (by unfold maxLen; omega))
    obtain ⟨H, hH⟩ : ∃ H, hash t.data.toList = H := ⟨_, rfl⟩
    have HH := Lib.hid hH
    have hHl : H < 4294967296 := by rw [← hH]; exact hash_lt _
    have hHH : ((H : Int) != (H : Int)) = false := by simp
    clear b3 hH
    go_wp2_with fail
    refine (specProbes s b _ HSM.out).mono ?_
    rw [HPS.out]
    rintro e w4 ⟨v4, rfl, o4, b4⟩
    obtain ⟨ad4, c4, rfl⟩ := o4.form
    rw [HN.out] at o4 ⊢
    have R4 := Lib.hid (R3.out.below b4)
    have P4 := Lib.hid o4.row
    have B4 := Lib.hid (B3.out.trans (b4.mono B3.out.size))
    clear o4 b4
    go_wp2_with fail
    refine (sameInts_same ad ad4 n c c4 (nums ps) (by omega) _ R4.out P4.out).mono ?_
    rintro e w5 ⟨rfl, b5⟩
    have R5 := Lib.hid (R4.out.below b5)
    have B5 := Lib.hid (B4.out.trans (b5.mono B4.out.size))
    clear b5
    go_wp2_with fail
    refine (implHash t _ HTM.out).mono ?_
    rw [HH.out]
    rintro e w6 ⟨rfl, b6⟩
    have R6 := Lib.hid (R5.out.below b6)
    have B6 := Lib.hid (B5.out.trans (b6.mono B5.out.size))
    clear b6
    go_wp2_with fail
    refine (specHash t _ HTM.out).mono ?_
    rw [HH.out]
    rintro e w7 ⟨rfl, rfl⟩
    by_cases hin : 1 ≤ b ∧ b ≤ 100000
    · obtain ⟨m, rfl⟩ := Int.eq_ofNat_of_zero_le (show 0 ≤ b by omega)
      have hm1 : 1 ≤ m := by omega
      have hm2 : m ≤ 100000 := by omega
      have h1 : ¬ (m : Int) < 1 := by omega
      have h2 : ¬ (100000 : Int) < (m : Int) := by omega
      have hp6 := HPS.out
      rw [probes_yes hm1 hm2] at hp6
      have hn9 : n = 6 := by rw [← HN.out, nums_len, ← hp6, six_len]
      subst hn9
      have HLT := Lib.hid (show ∀ p, p ∈ ps → p < m from fun p hp => by rw [← hp6] at hp; exact six_lt hm1 hp)
      obtain ⟨K, hK⟩ : ∃ K, hash s.data.toList = K := ⟨_, rfl⟩
      have HHS := Lib.hid hK
      have hKl : K < 4294967296 := by rw [← hK]; exact hash_lt _
      have HP0 := Lib.hid (show ps[0]? = some (K % m) by rw [← hp6, hK]; unfold six; simp [stand_zero hKl])
      have HLP := Lib.hid (show ps.length = 6 by rw [← hp6, six_len])
      clear hin hp6 hK
      go_wp2_with fail
      go_loopw [7] (fun ii wr => ∃ i : Nat, i ≤ 6 ∧ ii = .int .i64 i ∧ Hid (IntAt wr ad 6 c (nums ps) ∧ Below w.heap.size w wr)) (fun ii _ => 6 - (intOf ii).toNat)
      case atStart => exact ⟨0, by omega, rfl, ⟨R6.out, B6.out⟩⟩
      case round =>
        obtain ⟨i, hi, rfl, RR⟩ := hrel
        by_cases hlt : i < 6
        · obtain ⟨p, hp⟩ : ∃ p, ps[i]? = some p := ⟨_, List.getElem?_eq_getElem (by rw [HLP.out]; exact hlt)⟩
          obtain ⟨g, hg, c0⟩ := RR.out.1.2.2 i (p : Int) (nums_at hp)
          subst hg
          have hpm := HLT.out p (List.mem_of_getElem? hp)
          have i1 : (i : Int) < 6 := by omega
          have i0 : (0 : Int) ≤ (i : Int) := by omega
          have p0 : ¬ (p : Int) < 0 := by omega
          have p1 : ¬ (m : Int) ≤ (p : Int) := by omega
          clear hp
          go_wp2
          go_roundw
          case rel => exact ⟨i + 1, by omega, by go_num, ⟨RR.out.1, RR.out.2⟩⟩
          case measure => simp [intOf]; omega
        · obtain rfl : i = 6 := by omega
          obtain ⟨p0, hp0⟩ : ∃ p, K % m = p := ⟨_, rfl⟩
          obtain ⟨g, hg, c0⟩ := RR.out.1.2.2 0 (p0 : Int) (nums_at (by rw [HP0.out, hp0]))
          subst hg
          have HC0 := Lib.hid c0
          have B7 := Lib.hid RR.out.2
          have hmz : ¬ m = 0 := by omega
          have hp1 : p0 < m := by rw [← hp0]; exact Nat.mod_lt _ (by omega)
          have HRM := Lib.hid (show (K : Int).tmod (m : Int) = (p0 : Int) by rw [← hp0, Int.natCast_emod, Int.tmod_eq_emod_of_nonneg (by omega)])
          have HRW := Lib.hid (show IntKind.i64.wrap ((K : Int).tmod (m : Int)) = (p0 : Int) by rw [HRM.out]; exact IntWalk.i64_in _ (by omega))
          have HDL := Lib.hid (show decide ((H : Int) ≤ 4294967295) = true from decide_eq_true (by omega))
          have HNO := Lib.hid (show hash (⟨#[]⟩ : ByteArray).data.toList = 2166136261 from rfl)
          clear hp0 c0 RR
          go_wp2_with fail
          refine (implHash t _ HTM.out).mono ?_
          rw [HH.out]
          rintro e w11 ⟨rfl, b11⟩
          have E11 := Lib.hid (below_cell HC0.out b11)
          have Q11 := Lib.hid (B7.out.trans (b11.mono B7.out.size))
          clear b11
          go_wp2_with fail
          refine wp_region_held_drew (S := fun w' => w'.cell? ⟨g, 0, none⟩ = some (.int .i64 (p0 : Int))) (by kernel_rfl) E11.out (fun hHeld => ?_)
          refine takeS_at (i := 0) (d := some 64) (v := ?_) rfl rfl (by kernel_rfl) (by kernel_rfl) (by kernel_rfl) (fun _ _ _ h => h) (by rfl) ?hy hHeld ?_
          case hy => (intro w' hS; clear hS; go_simp <;> with_reducible rfl)
          simp only [Act.put, List.setIfInBounds_toArray, List.set_cons_zero, List.set_cons_succ]
          refine takeS_at (i := 1) (d := some 65) (v := ?_) rfl rfl (by kernel_rfl) (by kernel_rfl) (by kernel_rfl) (fun _ _ _ h => h) (by rfl) ?hy hHeld ?_
          case hy => (intro w' hS; clear hS; go_simp <;> with_reducible rfl)
          simp only [Act.put, List.setIfInBounds_toArray, List.set_cons_zero, List.set_cons_succ]
          refine takeS_at (i := 2) (d := some 66) (v := ?_) rfl rfl (by kernel_rfl) (by kernel_rfl) (by kernel_rfl) (fun _ _ _ h => h) (by rfl) ?hy hHeld ?_
          case hy => (intro w' hS; clear hS; go_simp <;> with_reducible rfl)
          simp only [Act.put, List.setIfInBounds_toArray, List.set_cons_zero, List.set_cons_succ]
          refine takeS_at (i := 3) (d := some 67) (v := ?_) rfl rfl (by kernel_rfl) (by kernel_rfl) (by kernel_rfl) (fun _ _ _ h => h) (by rfl) ?hy hHeld ?_
          case hy => (intro w' hS; clear hS; go_simp <;> with_reducible rfl)
          simp only [Act.put, List.setIfInBounds_toArray, List.set_cons_zero, List.set_cons_succ]
          refine takeS_at (i := 4) (d := some 68) (v := ?_) rfl rfl (by kernel_rfl) (by kernel_rfl) (by kernel_rfl) (fun _ _ _ h => h) (by rfl) ?hy hHeld ?_
          case hy => (intro w' hS; clear hS; go_simp <;> with_reducible rfl)
          simp only [Act.put, List.setIfInBounds_toArray, List.set_cons_zero, List.set_cons_succ]
          refine takeS_at (i := 5) (d := some 69) (v := ?_) rfl rfl (by kernel_rfl) (by kernel_rfl) (by kernel_rfl) (fun _ _ _ h => h) (by rfl) ?hy hHeld ?_
          case hy => (intro w' hS; clear hS; go_simp <;> with_reducible rfl)
          simp only [Act.put, List.setIfInBounds_toArray, List.set_cons_zero, List.set_cons_succ]
          refine takeS_at (i := 6) (d := some 70) (v := ?_) rfl rfl (by kernel_rfl) (by kernel_rfl) (by kernel_rfl) (fun _ _ _ h => h) (by rfl) ?hy hHeld ?_
          case hy => (intro w' hS; go_simp <;> with_reducible rfl)
          simp only [Act.put, List.setIfInBounds_toArray, List.set_cons_zero, List.set_cons_succ]
          refine takeS_at (i := 7) (d := some 71) (v := ?_) rfl rfl (by kernel_rfl) (by kernel_rfl) (by kernel_rfl) (fun _ _ _ h => h) (by rfl) ?hy hHeld ?_
          case hy => (intro w' hS; clear hS; go_simp <;> with_reducible rfl)
          simp only [Act.put, List.setIfInBounds_toArray, List.set_cons_zero, List.set_cons_succ]
          refine takeS_at (i := 9) (d := some 73) (v := ?_) rfl rfl (by kernel_rfl) (by kernel_rfl) (by kernel_rfl) (fun _ _ _ h => h) (by rfl) ?hy hHeld ?_
          case hy => (intro w' hS; clear hS; go_simp <;> with_reducible rfl)
          simp only [Act.put, List.setIfInBounds_toArray, List.set_cons_zero, List.set_cons_succ]
          refine wpAnyH_ready (rs := [8]) (by kernel_rfl) (by simp) ?_
          refine AllReadyH.cons rfl (fun K hK => ?_) AllReadyH.nil
          go_simp
          refine (implHash s _ (by first | exact HSM.out | (unfold maxLen; decide))).mono ?_
          rw [HHS.out]
          rintro e w12 ⟨rfl, hb12⟩
          have E12 := Lib.hid (below_cell (below_cell E11.out (below_draws 1)) hb12)
          have Q12 := Lib.hid ((Q11.out.trans (below_draws 1)).trans (hb12.mono (by have := Q11.out.size; simpa using this)))
          clear hb12
          go_wp2_with fail
          refine hK.out _ _ E12.out (fun hHeld => ?_)
          clear hK K
          refine takeS_at (i := 10) (d := some 74) (v := ?_) rfl rfl (by kernel_rfl) (by kernel_rfl) (by kernel_rfl) (fun _ _ _ h => h) (by rfl) ?hy hHeld ?_
          case hy => (intro w' hS; clear hS; go_simp; first | rw [HRM.out] | rw [HRW.out])
          simp only [Act.put, List.setIfInBounds_toArray, List.set_cons_zero, List.set_cons_succ]
          refine takeS_at (i := 11) (d := some 75) (v := ?_) rfl rfl (by kernel_rfl) (by kernel_rfl) (by kernel_rfl) (fun _ _ _ h => h) (by rfl) ?hy hHeld ?_
          case hy => (intro w' hS; clear hS; go_simp <;> with_reducible rfl)
          simp only [Act.put, List.setIfInBounds_toArray, List.set_cons_zero, List.set_cons_succ]
          refine takeS_at (i := 12) (d := some 76) (v := ?_) rfl rfl (by kernel_rfl) (by kernel_rfl) (by kernel_rfl) (fun _ _ _ h => h) (by rfl) ?hy hHeld ?_
          case hy => (intro w' hS; clear hS; go_simp <;> with_reducible rfl)
          simp only [Act.put, List.setIfInBounds_toArray, List.set_cons_zero, List.set_cons_succ]
          refine takeS_at (i := 13) (d := some 77) (v := ?_) rfl rfl (by kernel_rfl) (by kernel_rfl) (by kernel_rfl) (fun _ _ _ h => h) (by rfl) ?hy hHeld ?_
          case hy => (intro w' hS; clear hS; go_simp <;> with_reducible rfl)
          simp only [Act.put, List.setIfInBounds_toArray, List.set_cons_zero, List.set_cons_succ]
          refine takeS_at (i := 14) (d := some 78) (v := ?_) rfl rfl (by kernel_rfl) (by kernel_rfl) (by kernel_rfl) (fun _ _ _ h => h) (by rfl) ?hy hHeld ?_
          case hy => (intro w' hS; clear hS; go_simp <;> with_reducible rfl)
          simp only [Act.put, List.setIfInBounds_toArray, List.set_cons_zero, List.set_cons_succ]
          refine takeS_at (i := 15) (d := some 79) (v := ?_) rfl rfl (by kernel_rfl) (by kernel_rfl) (by kernel_rfl) (fun _ _ _ h => h) (by rfl) ?hy hHeld ?_
          case hy => (intro w' hS; clear hS; go_simp <;> with_reducible rfl)
          simp only [Act.put, List.setIfInBounds_toArray, List.set_cons_zero, List.set_cons_succ]
          refine takeS_at (i := 16) (d := some 80) (v := ?_) rfl rfl (by kernel_rfl) (by kernel_rfl) (by kernel_rfl) (fun _ _ _ h => h) (by rfl) ?hy hHeld ?_
          case hy => (intro w' hS; clear hS; go_simp <;> with_reducible rfl)
          simp only [Act.put, List.setIfInBounds_toArray, List.set_cons_zero, List.set_cons_succ]
          refine takeS_at (i := 17) (d := some 81) (v := ?_) rfl rfl (by kernel_rfl) (by kernel_rfl) (by kernel_rfl) (fun _ _ _ h => h) (by rfl) ?hy hHeld ?_
          case hy => (intro w' hS; clear hS; go_simp <;> with_reducible rfl)
          simp only [Act.put, List.setIfInBounds_toArray, List.set_cons_zero, List.set_cons_succ]
          refine takeS_at (i := 18) (d := some 82) (v := ?_) rfl rfl (by kernel_rfl) (by kernel_rfl) (by kernel_rfl) (fun _ _ _ h => h) (by rfl) ?hy hHeld ?_
          case hy => (intro w' hS; clear hS; go_simp <;> with_reducible rfl)
          simp only [Act.put, List.setIfInBounds_toArray, List.set_cons_zero, List.set_cons_succ]
          refine takeS_at (i := 19) (d := some 83) (v := ?_) rfl rfl (by kernel_rfl) (by kernel_rfl) (by kernel_rfl) (fun _ _ _ h => h) (by rfl) ?hy hHeld ?_
          case hy => (intro w' hS; clear hS; go_simp <;> first | rw [HDL.out] | with_reducible rfl)
          simp only [Act.put, List.setIfInBounds_toArray, List.set_cons_zero, List.set_cons_succ]
          refine takeS_at (i := 20) (d := some 84) (v := ?_) rfl rfl (by kernel_rfl) (by kernel_rfl) (by kernel_rfl) (fun _ _ _ h => h) (by rfl) ?hy hHeld ?_
          case hy => (intro w' hS; clear hS; go_simp <;> with_reducible rfl)
          simp only [Act.put, List.setIfInBounds_toArray, List.set_cons_zero, List.set_cons_succ]
          refine takeS_at (i := 21) (d := some 85) (v := ?_) rfl rfl (by kernel_rfl) (by kernel_rfl) (by kernel_rfl) (fun _ _ _ h => h) (by rfl) ?hy hHeld ?_
          case hy => (intro w' hS; clear hS; go_simp <;> with_reducible rfl)
          simp only [Act.put, List.setIfInBounds_toArray, List.set_cons_zero, List.set_cons_succ]
          refine wpAnyH_ready (rs := [22]) (by kernel_rfl) (by simp) ?_
          refine AllReadyH.cons rfl (fun K hK => ?_) AllReadyH.nil
          go_simp
          first | rw [if_pos (show (H : Int) ≤ 4294967295 by omega)] | skip
          refine (implHash ⟨#[]⟩ _ (by first | exact HSM.out | (unfold maxLen; decide))).mono ?_
          rw [HNO.out]
          rintro e w13 ⟨rfl, hb13⟩
          have E13 := Lib.hid (below_cell E12.out hb13)
          have Q13 := Lib.hid (Q12.out.trans (hb13.mono (by have := Q12.out.size; simpa using this)))
          clear hb13
          go_wp2_with fail
          refine hK.out _ _ E13.out (fun hHeld => ?_)
          clear hK K
          refine takeS_at (i := 23) (d := some 87) (v := ?_) rfl rfl (by kernel_rfl) (by kernel_rfl) (by kernel_rfl) (fun _ _ _ h => h) (by rfl) ?hy hHeld ?_
          case hy => (intro w' hS; clear hS; go_simp <;> with_reducible rfl)
          simp only [Act.put, List.setIfInBounds_toArray, List.set_cons_zero, List.set_cons_succ]
          refine takeS_at (i := 24) (d := some 88) (v := ?_) rfl rfl (by kernel_rfl) (by kernel_rfl) (by kernel_rfl) (fun _ _ _ h => h) (by rfl) ?hy hHeld ?_
          case hy => (intro w' hS; clear hS; go_simp <;> with_reducible rfl)
          simp only [Act.put, List.setIfInBounds_toArray, List.set_cons_zero, List.set_cons_succ]
          refine takeS_at (i := 25) (d := some 2) (v := ?_) rfl rfl (by kernel_rfl) (by kernel_rfl) (by kernel_rfl) (fun _ _ _ h => h) (by rfl) ?hy hHeld ?_
          case hy => (intro w' hS; clear hS; go_simp <;> with_reducible rfl)
          simp only [Act.put, List.setIfInBounds_toArray, List.set_cons_zero, List.set_cons_succ]
          refine wpAnyH_done (by kernel_rfl) ?_ _
          go_wp2
          go_ret
          exact ⟨ret_bool (by simp), Q13.out⟩
    · have hn0 : n = 0 := by rw [← HN.out, nums_len, ← HPS.out, probes_no (by omega)]; rfl
      subst hn0
      by_cases h1 : b < 1
      · go_wp2
        go_ret
        exact ⟨rfl, B6.out⟩
      · have h2 : (100000 : Int) < b := by omega
        go_wp2
        go_ret
        exact ⟨rfl, B6.out⟩
  · go_enter Try.func4, Try.ntmps4
    go_wp2_with fail
    refine (big_yes a0 len0 cap0 _ hbig).mono ?_
    rintro e w1 ⟨rfl, rfl⟩
    go_wp2
    go_ret
    exact ⟨rfl, Below.refl _ _⟩
end Go.Proofs.Ytlnjaebfdemlgaa
