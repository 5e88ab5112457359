/- The walk of the law FnOnes: a filter in which more bits are ones loses nobody. -/
import Derived.Test.YtlnjaebfdemlgaaFilI
import Derived.Test.YtlnjaebfdemlgaaDrawFil
import Derived.Test.YtlnjaebfdemlgaaTurned
import Derived.Test.YtlnjaebfdemlgaaLawA
namespace Go.Proofs.Ytlnjaebfdemlgaa
open Go.RowKit
set_option linter.unusedVariables false

theorem buf_later {w0 w w' : World} {g : Nat} {xs : List UInt8} (t : Buf w0 w g xs) (hb : Below w.heap.size w w') : Buf w0 w' g xs := by
  obtain ⟨cs, n, h1, h2⟩ := t.block
  exact ⟨⟨cs, n, (hb.block g (Array.getElem?_eq_some_iff.1 h1).1).trans h1, h2⟩, t.own, t.below.trans (hb.mono t.below.size)⟩
theorem or_two (x : UInt8) (y : Nat) (h : y ≤ 255) : bits .or .u8 (x.toNat : Int) (y : Int) = ((UInt8.ofNat (x.toNat ||| y)).toNat : Int) := by
  have hx := x.toNat_lt
  have h3 : x.toNat ||| y < 2 ^ 8 := Nat.or_lt_two_pow (by omega) (by omega)
  rw [u8_or_nat x.toNat y hx (by omega), UInt8.toNat_ofNat', Nat.mod_eq_of_lt h3]
theorem more_bits {bs : List UInt8} {i y : Nat} (hi : i < bs.length) (hy : y ≤ 255) {b : Nat} (h : bitAt bs b = true) : bitAt (bs.set i (UInt8.ofNat ((bs.getD i 0).toNat ||| y))) b = true := by
  unfold bitAt at h ⊢
  rw [List.getD_eq_getElem?_getD, List.getElem?_set]
  by_cases e : i = b / 8
  · subst e
    have hx := (bs.getD (b / 8) 0).toNat_lt
    have h3 : (bs.getD (b / 8) 0).toNat ||| y < 2 ^ 8 := Nat.or_lt_two_pow (by omega) (by omega)
    rw [if_pos rfl, if_pos hi, Option.getD_some, UInt8.toNat_ofNat', Nat.mod_eq_of_lt h3, Nat.testBit_or, h, Bool.true_or]
  · rw [if_neg e, ← List.getD_eq_getElem?_getD]
    exact h

set_option maxHeartbeats 2000000 in
set_option maxRecDepth 100000 in
theorem fnOnes_walk (a0 : Option Addr) (len0 cap0 : Nat) (z0 : List Int) (w : World) (w0 : IsRow .u8 w a0 len0 cap0 z0) :
    Calls Try.prog 6 #[.slice a0 len0 cap0] w fun e w' => e = .returned (.bool true) ∧ Below w.heap.size w w' := by
  have HR := Lib.hid (bytes_of_row w0 w.heap.size (Nat.le_refl _))
  clear w0
  by_cases hbig : len0 ≤ 1048576
  · go_enter Try.func6, Try.ntmps6
    go_wp2_with fail
    refine (big_no a0 len0 cap0 _ hbig).mono ?_
    rintro e w1 ⟨rfl, rfl⟩
    go_wp2_with fail
    refine (drawMayHave_at a0 len0 cap0 z0 _ HR.out).mono ?_
    rintro e w3 ⟨f, k, rfl, hf3, hk1, b3⟩
    have B3 := Lib.hid b3
    have hkm : k.size ≤ maxLen := Nat.le_trans hk1 (by unfold maxLen; omega)
    obtain ⟨cap, W, hcv, hbuf, hcap⟩ := buf_new w3 f
    obtain ⟨N, hN⟩ : ∃ N, f.size = N := ⟨_, rfl⟩
    have HN := Lib.hid hN
    have HFL := Lib.hid (show f.data.toList.length = N by rw [← hN]; simp)
    have HBF := Lib.hid hbuf
    rw [hN] at hcv hcap
    clear b3 hbuf hN
    go_wp2_with fail
    clear hcv
    obtain ⟨gb, hgb⟩ : ∃ g, w3.heap.size = g := ⟨_, rfl⟩
    rw [hgb] at HBF ⊢
    have HGB := Lib.hid hgb
    clear hgb
    go_loopw [6] (fun ii wr => ∃ (i : Nat) (cur : List UInt8), i ≤ N ∧ ii = .int .i64 i ∧ cur.length = N ∧ Hid (Buf w3 wr gb cur ∧ ∀ b, bitAt f.data.toList b = true → bitAt cur b = true)) (fun ii _ => N - (intOf ii).toNat)
    case atStart => exact ⟨0, f.data.toList, Nat.zero_le _, rfl, HFL.out, ⟨HBF.out, fun b h => h⟩⟩
    case round =>
      obtain ⟨i, cur, hi, rfl, hcl, HX⟩ := hrel
      by_cases hlt : i < N
      · have i1 : (i : Int) < (N : Int) := by omega
        have i0 : (0 : Int) ≤ (i : Int) := by omega
        have hN300 : N ≤ 300 := by have := HN.out; omega
        obtain ⟨y, hy, _, hcall⟩ := at_one a0 len0 cap0 z0 (i + 5) _ (below_bytes HR.out (B3.out.trans (HX.out.1.below.mono B3.out.size))) hbig (by omega)
        rw [show ((i + 5 : Nat) : Int) = (i : Int) + 5 by omega] at hcall
        have HCALL := Lib.hid hcall
        have hcell := HX.out.1.cell i (by omega)
        have hfro := HX.out.1.frozen i (by omega)
        unfold u8v at hcell
        obtain ⟨c, hc⟩ : ∃ c, cur.getD i 0 = c := ⟨_, rfl⟩
        rw [hc] at hcell
        have HC := Lib.hid hc
        have HV := Lib.hid (or_two c y hy)
        have HM := Lib.hid (fun (b : Nat) h => more_bits (bs := cur) (i := i) (y := y) (by omega) hy (b := b) h)
        have ew : IntKind.i64.wrap ((i : Int) + 5) = (i : Int) + 5 := IntWalk.i64_in _ (by omega)
        clear hcall hc
        go_wp2_with fail
        refine wp_region_still_tail 13 (by kernel_rfl) (by kernel_rfl) ?_
        simp only [List.take_succ_cons, List.take_zero, List.drop_succ_cons, List.drop_zero]
        iterate 9 still_step
        still_call (HCALL.out _ (fun _ => rfl) rfl)
        iterate 3 still_step
        refine wpStill_nil ?_
        change wpList _ _ _ _ _ wr.drew
        go_wp2
        go_roundw
        case rel =>
          refine ⟨i + 1, cur.set i (UInt8.ofNat ((cur.getD i 0).toNat ||| y)), by omega, by go_num, by rw [List.length_set]; exact hcl, ⟨?_, fun b h => HM.out b (HX.out.2 b h)⟩⟩
          exact (HX.out.1.set i _ (by rw [HC.out]; first | (rw [HV.out]; rfl) | (unfold u8v; rw [← HV.out]; congr 2; omega))).drewN 1
        case measure => simp [intOf]; omega
      · obtain rfl : i = N := by omega
        have h3 : ¬ (i : Int) < (i : Int) := by omega
        have HCL := Lib.hid hcl
        have E7 := Lib.hid (show Buf w3 wr.drew gb cur from HX.out.1.drewN 1)
        have Q7 := Lib.hid (show Below w.heap.size w wr.drew from (B3.out.trans (HX.out.1.below.mono B3.out.size)).trans (below_draws 1))
        have HMORE := Lib.hid HX.out.2
        obtain ⟨b1, hb1⟩ : ∃ b, mayHave f.data.toList k.data.toList = b := ⟨_, rfl⟩
        obtain ⟨b2, hb2⟩ : ∃ b, mayHave (⟨cur.toArray⟩ : ByteArray).data.toList k.data.toList = b := ⟨_, rfl⟩
        have HB1 := Lib.hid hb1
        have HB2 := Lib.hid hb2
        have HB3 := Lib.hid (show b1 = true → b2 = true from fun h => by
          rw [← hb2]
          exact has_more (by rw [HFL.out]; exact hcl.symm) HMORE.out (by rw [hb1]; exact h))
        have HCS := Lib.hid (show (⟨cur.toArray⟩ : ByteArray).size ≤ 1048576 by
          have h1 : (⟨cur.toArray⟩ : ByteArray).size = cur.length := by simp [ByteArray.size]
          have := HN.out
          omega)
        clear HX hb1 hb2 hcl
        go_wp2_with fail
        refine wp_region_held_drew (S := fun W => Buf w3 W gb cur) (by kernel_rfl) E7.out (fun hHeld => ?_)
        refine takeS_at (i := 0) (d := some 37) (v := ?_) rfl rfl (by kernel_rfl) (by kernel_rfl) (by kernel_rfl) (fun _ _ _ h => h) (by rfl) ?hy hHeld ?_
        case hy => (intro w' hS; clear hS; go_simp <;> with_reducible rfl)
        simp only [Act.put, List.setIfInBounds_toArray, List.set_cons_zero, List.set_cons_succ]
        refine takeS_at (i := 1) (d := some 38) (v := ?_) rfl rfl (by kernel_rfl) (by kernel_rfl) (by kernel_rfl) (fun _ _ _ h => h) (by rfl) ?hy hHeld ?_
        case hy => (intro w' hS; clear hS; go_simp <;> with_reducible rfl)
        simp only [Act.put, List.setIfInBounds_toArray, List.set_cons_zero, List.set_cons_succ]
        refine takeS_at (i := 3) (d := some 40) (v := ?_) rfl rfl (by kernel_rfl) (by kernel_rfl) (by kernel_rfl) (fun _ _ _ h => h) (by rfl) ?hy hHeld ?_
        case hy => (intro w' hS; clear hS; go_simp <;> with_reducible rfl)
        simp only [Act.put, List.setIfInBounds_toArray, List.set_cons_zero, List.set_cons_succ]
        refine takeS_at (i := 4) (d := some 41) (v := ?_) rfl rfl (by kernel_rfl) (by kernel_rfl) (by kernel_rfl) (fun _ _ _ h => h) (by rfl) ?hy hHeld ?_
        case hy => (intro w' hS; have hcv := hS.str (c := cap) (n := i) HCL.out; clear hS; go_simp <;> with_reducible rfl)
        simp only [Act.put, List.setIfInBounds_toArray, List.set_cons_zero, List.set_cons_succ]
        refine takeS_at (i := 5) (d := some 42) (v := ?_) rfl rfl (by kernel_rfl) (by kernel_rfl) (by kernel_rfl) (fun _ _ _ h => h) (by rfl) ?hy hHeld ?_
        case hy => (intro w' hS; clear hS; go_simp <;> with_reducible rfl)
        simp only [Act.put, List.setIfInBounds_toArray, List.set_cons_zero, List.set_cons_succ]
        refine wpAnyH_ready (rs := [2]) (by kernel_rfl) (by simp) ?_
        refine AllReadyH.cons rfl (fun K hK => ?_) AllReadyH.nil
        go_simp
        refine (implMayHave f k _ (by omega) hkm).mono ?_
        rw [HB1.out]
        rintro e w8 ⟨rfl, hb8⟩
        have E8 := Lib.hid (buf_later E7.out hb8)
        have Q8 := Lib.hid (Q7.out.trans (hb8.mono (by have := Q7.out.size; simpa using this)))
        clear hb8
        go_wp2_with fail
        refine hK.out _ _ E8.out (fun hHeld => ?_)
        clear hK K
        refine wpAnyH_ready (rs := [6]) (by kernel_rfl) (by simp) ?_
        refine AllReadyH.cons rfl (fun K hK => ?_) AllReadyH.nil
        go_simp
        refine (implMayHave ⟨cur.toArray⟩ k _ HCS.out hkm).mono ?_
        rw [HB2.out]
        rintro e w9 ⟨rfl, hb9⟩
        have E9 := Lib.hid (buf_later E8.out hb9)
        have Q9 := Lib.hid (Q8.out.trans (hb9.mono (by have := Q8.out.size; simpa using this)))
        clear hb9
        go_wp2_with fail
        refine hK.out _ _ E9.out (fun hHeld => ?_)
        clear hK K
        refine takeS_at (i := 7) (d := some 7) (v := ?_) rfl rfl (by kernel_rfl) (by kernel_rfl) (by kernel_rfl) (fun _ _ _ h => h) (by rfl) ?hy hHeld ?_
        case hy => (intro w' hS; clear hS; go_simp <;> with_reducible rfl)
        simp only [Act.put, List.setIfInBounds_toArray, List.set_cons_zero, List.set_cons_succ]
        refine takeS_at (i := 8) (d := some 8) (v := ?_) rfl rfl (by kernel_rfl) (by kernel_rfl) (by kernel_rfl) (fun _ _ _ h => h) (by rfl) ?hy hHeld ?_
        case hy => (intro w' hS; clear hS; go_simp <;> with_reducible rfl)
        simp only [Act.put, List.setIfInBounds_toArray, List.set_cons_zero, List.set_cons_succ]
        refine wpAnyH_done (by kernel_rfl) ?_ _
        have hc1 := E9.out.str (c := cap) (n := i) HCL.out
        go_wp2_with fail
        refine (specMayHave f k _ (by omega) hkm).mono ?_
        rw [HB1.out]
        rintro e w10 ⟨rfl, b10⟩
        have E10 := Lib.hid (buf_later E9.out b10)
        have Q10 := Lib.hid (Q9.out.trans (b10.mono Q9.out.size))
        have hbb : (b1 == b1) = true := by simp
        have hb2b : (b2 == b2) = true := by simp
        clear b10 hc1
        have hc2 := E10.out.str (c := cap) (n := i) HCL.out
        go_wp2_with fail
        refine (specMayHave ⟨cur.toArray⟩ k _ HCS.out hkm).mono ?_
        rw [HB2.out]
        rintro e w11 ⟨rfl, b11⟩
        have Q11 := Lib.hid (Q10.out.trans (b11.mono Q10.out.size))
        clear b11 hc2
        cases b1
        · go_wp2
          go_ret
          exact ⟨ret_bool (by simp), Q11.out⟩
        · have hb2t := HB3.out rfl
          subst hb2t
          go_wp2
          go_ret
          exact ⟨ret_bool (by simp), Q11.out⟩
  · go_enter Try.func6, Try.ntmps6
    go_wp2_with fail
    refine (big_yes a0 len0 cap0 _ hbig).mono ?_
    rintro e w1 ⟨rfl, rfl⟩
    go_wp2
    go_ret
    exact ⟨rfl, Below.refl _ _⟩
end Go.Proofs.Ytlnjaebfdemlgaa
