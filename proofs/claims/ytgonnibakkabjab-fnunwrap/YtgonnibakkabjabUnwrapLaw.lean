/- The walk of the law FnUnwrap. -/
import Derived.Test.YtgonnibakkabjabTurned
import Derived.Test.YtgonnibakkabjabPlainText
import Derived.Test.YtgonnibakkabjabDrawWrap
import Derived.Test.YtgonnibakkabjabUnwrap
namespace Go.Proofs.Ytgonnibakkabjab
open Go.RowKit
set_option linter.unusedVariables false

theorem head4 (s : ByteArray) (h : 4 ≤ s.size) : (s.extract 0 4).size = 4 := by rw [ByteArray.size_extract]; omega
/-- Which of the two ways of wrapping makes it again. -/
theorem unwrap_again {l : List UInt8} (h : (unwrapB l).2 = 0) : wrapB (unwrapB l).1 true = l ∨ wrapB (unwrapB l).1 false = l := by
  obtain ⟨p, hp⟩ := unwrap_some h
  cases p
  · exact .inr hp
  · exact .inl hp

set_option maxHeartbeats 4000000 in
set_option maxRecDepth 100000 in
theorem fnUnwrap_walk (a0 : Option Addr) (len0 cap0 : Nat) (z0 : List Int) (w : World) (w0 : IsRow .u8 w a0 len0 cap0 z0) :
    Calls Try.prog 4 #[.slice a0 len0 cap0] w fun e w' => e = .returned (.bool true) ∧ Below w.heap.size w w' := by
  have HR := Lib.hid (bytes_of_row w0 w.heap.size (Nat.le_refl _))
  clear w0
  by_cases hbig : len0 ≤ 1048576
  · go_enter Try.func4, Try.ntmps4
    go_wp2_with fail
    refine (big_no a0 len0 cap0 _ hbig).mono ?_
    rintro e w1 ⟨rfl, rfl⟩
    go_wp2_with fail
    refine (drawUnwrap_at a0 len0 cap0 z0 _ HR.out).mono ?_
    rintro e w1 ⟨s, hs, rfl, b1⟩
    have R1 := Lib.hid (below_bytes HR.out b1)
    have B1 := Lib.hid b1
    clear b1 HR
    obtain ⟨X, hX, hXs⟩ := text_of (unwrapB s.data.toList).1
    obtain ⟨k, hk⟩ : ∃ k, (unwrapB s.data.toList).2 = k := ⟨_, rfl⟩
    have HX := Lib.hid (show (X.data.toList, k) = unwrapB s.data.toList by rw [hX, ← hk])
    have hX9 := (unwrap_most s.data.toList).1
    rw [← hXs] at hX9
    have hk9 := (unwrap_most s.data.toList).2
    rw [hk] at hk9
    have HK := Lib.hid (show k ≠ 0 → X = ⟨#[]⟩ from fun h => no_text (by rw [hX]; exact unwrap_none (by rw [hk]; exact h)))
    have HAG := Lib.hid (show k = 0 → wrapB X.data.toList true = s.data.toList ∨ wrapB X.data.toList false = s.data.toList from fun h => by rw [hX]; exact unwrap_again (by rw [hk]; exact h))
    clear hX hXs hk
    go_wp2_with fail
    refine (implUnwrap s X k (by omega) HX.out _).mono ?_
    rintro e w2 ⟨rfl, b2⟩
    have R2 := Lib.hid (below_bytes R1.out b2)
    have B2 := Lib.hid (B1.out.trans (b2.mono B1.out.size))
    clear b2 R1 B1
    go_wp2_with fail
    refine (specUnwrap s X k (by omega) HX.out _).mono ?_
    rintro e w3 ⟨rfl, b3⟩
    have R3 := Lib.hid (below_bytes R2.out b3)
    have B3 := Lib.hid (B2.out.trans (b3.mono B2.out.size))
    have hx1 := ne_false X
    have hx2 : ((k : Int) != (k : Int)) = false := by simp
    clear b3 R2 B2
    by_cases hk0 : k = 0
    · subst hk0
      go_wp2_with fail
      refine (at_some a0 len0 cap0 z0 1 _ _ R3.out hbig (by omega)).mono ?_
      rintro e w4 ⟨x1, h1, rfl, rfl⟩
      obtain ⟨n1, hn1, hn2, hn3⟩ : ∃ n1 : Nat, (1 : Int) + (x1 : Int) % 5 = (n1 : Int) ∧ 1 ≤ n1 ∧ n1 ≤ 5 := ⟨1 + x1 % 5, by omega, by omega, by omega⟩
      have HN1 := Lib.hid hn1
      clear hn1
      go_wp2_with fail
      rw [HN1.out]
      refine (plain_from a0 len0 cap0 z0 3 n1 (by omega) _ R3.out hbig hn2 (by omega)).mono ?_
      rintro e w4 ⟨T, hT1, hT2, rfl, b4⟩
      have R4 := Lib.hid (below_bytes R3.out b4)
      have B4 := Lib.hid (B3.out.trans (b4.mono B3.out.size))
      clear b4 R3 B3
      go_wp2_with fail
      refine (at_some a0 len0 cap0 z0 2 _ _ R4.out hbig (by omega)).mono ?_
      rintro e w5 ⟨x2, h2, rfl, rfl⟩
      obtain ⟨p, hp⟩ : ∃ p : Bool, ((x2 : Int) % 2 == 0) = p := ⟨_, rfl⟩
      obtain ⟨Z, hZ, hZs⟩ := text_of (wrapB T.data.toList p)
      have hTl : T.data.toList.length = T.size := by simp
      have hZ5 := wrapB_len p (l := T.data.toList) (by rw [hTl]; omega)
      rw [← hZs, hTl] at hZ5
      obtain ⟨hZ5, hZ6⟩ := hZ5
      have hZ9 : Z.size ≤ 1845 := by omega
      have HZ := Lib.hid hZ
      have HTL := Lib.hid (show T.data.toList.length ≤ 2000 by rw [hTl]; omega)
      clear hZ hZs hTl hZ5
      go_wp2_with fail
      try rw [hp]
      refine (specWrap T Z p HZ.out _).mono ?_
      rintro e w5 ⟨rfl, b5⟩
      have R5 := Lib.hid (below_bytes R4.out b5)
      have B5 := Lib.hid (B4.out.trans (b5.mono B4.out.size))
      clear b5 R4 B4 hp
      obtain ⟨cap, W, hcv, hbuf, hcap⟩ := buf_new w5 Z
      have HBF := Lib.hid hbuf
      have RW := Lib.hid (below_bytes R5.out hbuf.below)
      clear hbuf R5
      go_wp2_with fail
      refine (at_some a0 len0 cap0 z0 4 _ _ RW.out hbig (by omega)).mono ?_
      rintro e w9 ⟨x4, h4, rfl, rfl⟩
      clear hcv
      obtain ⟨n, hn, hn9⟩ : ∃ n : Nat, ((x4 : Int) % (Z.size : Int)) = (n : Int) ∧ n < Z.size := ⟨x4 % Z.size, by simp, Nat.mod_lt _ (by omega)⟩
      have HN := Lib.hid hn
      have hd0 : ((Z.size : Int) == 0) = false := beq_eq_false_iff_ne.2 (by omega)
      clear hn
      go_wp2_with fail
      rw [HN.out]
      obtain ⟨v, hv, hv2, hcall⟩ := at_one a0 len0 cap0 z0 5 _ RW.out hbig (by omega)
      have hZL : Z.data.toList.length = Z.size := by simp
      have hcell := HBF.out.cell n (by omega)
      have hfro := HBF.out.frozen n (by omega)
      unfold u8v at hcell
      obtain ⟨c, hc⟩ : ∃ c, Z.data.toList.getD n 0 = c := ⟨_, rfl⟩
      rw [hc] at hcell
      have HC := Lib.hid hc
      have HCALL := Lib.hid hcall
      have i1 : (n : Int) < (Z.size : Int) := by omega
      clear hc hcall hd0
      refine wp_region_still_tail 13 (by kernel_rfl) (by kernel_rfl) ?_
      simp only [List.take_succ_cons, List.take_zero, List.drop_succ_cons, List.drop_zero]
      iterate 7 still_step
      still_call (HCALL.out _ (fun _ => rfl) rfl)
      iterate 5 still_step
      refine wpStill_nil ?_
      change wpList _ _ _ _ _ W.drew
      have HB2 := Lib.hid ((HBF.out.set n (turned c v) (turned_val c v)).drewN 1)
      have hcv2 : (convert 22 9 (.slice (some ⟨w5.heap.size, 0, none⟩) Z.size cap)).run Try.prog (W.setCell ⟨w5.heap.size, n, none⟩ (.int .u8 (bits .xor .u8 (c.toNat : Int) (1 + (v : Int) % 255)))).drew = .ok (.string ⟨(Z.data.toList.set n (turned c v)).toArray⟩) (W.setCell ⟨w5.heap.size, n, none⟩ (.int .u8 (bits .xor .u8 (c.toNat : Int) (1 + (v : Int) % 255)))).drew :=
        HB2.out.str (by rw [List.length_set]; exact hZL)
      have HBZ := Lib.hid (B5.out.trans (HB2.out.below.mono B5.out.size))
      have hbad := unwrap_changed p HTL.out n (turned c v) (by rw [← HZ.out, hZL]; exact hn9) (by rw [← HZ.out, HC.out]; exact turned_ne c v)
      rw [← HZ.out] at hbad
      have HBAD := Lib.hid hbad
      obtain ⟨U, hU⟩ : ∃ U : ByteArray, (⟨(Z.data.toList.set n (turned c v)).toArray⟩ : ByteArray) = U := ⟨_, rfl⟩
      have hUs : U.size ≤ 2000 := by rw [← hU, text_size, List.length_set, hZL]; omega
      have HUD := Lib.hid (show U.data.toList = Z.data.toList.set n (turned c v) by rw [← hU])
      rw [hU] at hcv2
      clear hU hbad hZL HB2
      go_wp2_with fail
      refine (implUnwrap U ⟨#[]⟩ 2 (by omega) (by rw [HUD.out, HBAD.out]) _).mono ?_
      rintro e w6 ⟨rfl, b6⟩
      have B6 := Lib.hid (HBZ.out.trans (b6.mono HBZ.out.size))
      clear b6 HBZ hcv2 hcell hfro
      have h44 := head4 Z (by omega)
      have j1 : (4 : Int) ≤ (Z.size : Int) := by omega
      obtain ⟨F, hF⟩ : ∃ F, Z.extract 0 4 = F := ⟨_, rfl⟩
      rw [hF] at h44
      go_wp2_with fail
      refine (implUnwrap F ⟨#[]⟩ 1 (by omega) (by rw [unwrap_short (by have : F.data.toList.length = F.size := (by simp); omega)]) _).mono ?_
      rintro e w7 ⟨rfl, b7⟩
      have B7 := Lib.hid (B6.out.trans (b7.mono B6.out.size))
      clear b7 h44
      obtain ⟨S2, hS2, hS2s⟩ := text_of (sealedB [97, 98, 2])
      obtain ⟨S1, hS1, hS1s⟩ := text_of (sealedB [97, 98, 1])
      rw [sealed_len] at hS2s hS1s
      have HS2 := Lib.hid hS2
      have HS1 := Lib.hid hS1
      have l1 : S1.size ≤ 1048576 := by rw [hS1s]; decide
      have l2 : S2.size ≤ 1048576 := by rw [hS2s]; decide
      clear hS1 hS2 hS2s hS1s
      go_wp2_with fail
      refine (specSealed_as ⟨#[97, 98, 2]⟩ S2 (by decide) HS2.out _).mono ?_
      rintro e w8 ⟨rfl, b8⟩
      have B8 := Lib.hid (B7.out.trans (b8.mono B7.out.size))
      clear b8
      go_wp2_with fail
      refine (implUnwrap S2 ⟨#[]⟩ 3 l2 (by rw [HS2.out, unwrap_mark2]) _).mono ?_
      rintro e w9 ⟨rfl, b9⟩
      have B9 := Lib.hid (B8.out.trans (b9.mono B8.out.size))
      clear b9
      go_wp2_with fail
      refine (specSealed_as ⟨#[97, 98, 1]⟩ S1 (by decide) HS1.out _).mono ?_
      rintro e w10 ⟨rfl, b10⟩
      have B10 := Lib.hid (B9.out.trans (b10.mono B9.out.size))
      clear b10
      go_wp2_with fail
      refine (implUnwrap S1 ⟨#[]⟩ 4 l1 (by rw [HS1.out, unwrap_mark1]) _).mono ?_
      rintro e w11 ⟨rfl, b11⟩
      have B11 := Lib.hid (B10.out.trans (b11.mono B10.out.size))
      clear b11
      obtain ⟨Y1, hY1, hY1s⟩ := text_of (wrapB X.data.toList true)
      obtain ⟨Y2, hY2, hY2s⟩ := text_of (wrapB X.data.toList false)
      have HY1 := Lib.hid hY1
      have HY2 := Lib.hid hY2
      clear hY1 hY1s hY2 hY2s
      by_cases hy : Y1.data.toList = s.data.toList
      · have hyb : (Y1.toList == s.toList) = true := by rw [ByteArray.toList_eq, ByteArray.toList_eq, hy]; simp
        clear hy
        go_wp2_with fail
        refine (implWrap X Y1 true HY1.out _).mono ?_
        rintro e w12 ⟨rfl, b12⟩
        have B12 := Lib.hid (B11.out.trans (b12.mono B11.out.size))
        clear b12
        go_wp2
        go_ret
        exact ⟨rfl, B12.out⟩
      · have hyb : (Y1.toList == s.toList) = false := other_beq hy
        have hyc : (Y2.toList == s.toList) = true := by
          rcases HAG.out (by first | rfl | omega) with h | h
          · exact absurd (HY1.out.trans h) hy
          · rw [ByteArray.toList_eq, ByteArray.toList_eq, HY2.out.trans h]; simp
        clear hy
        go_wp2_with fail
        refine (implWrap X Y1 true HY1.out _).mono ?_
        rintro e w12 ⟨rfl, b12⟩
        have B12 := Lib.hid (B11.out.trans (b12.mono B11.out.size))
        clear b12
        go_wp2_with fail
        refine (implWrap X Y2 false HY2.out _).mono ?_
        rintro e w13 ⟨rfl, b13⟩
        have B13 := Lib.hid (B12.out.trans (b13.mono B12.out.size))
        clear b13
        go_wp2
        go_ret
        exact ⟨rfl, B13.out⟩
    · have hk1 : ((k : Int) == 0) = false := by simp; omega
      obtain rfl := HK.out hk0
      go_wp2_with fail
      refine (at_some a0 len0 cap0 z0 1 _ _ R3.out hbig (by omega)).mono ?_
      rintro e w4 ⟨x1, h1, rfl, rfl⟩
      obtain ⟨n1, hn1, hn2, hn3⟩ : ∃ n1 : Nat, (1 : Int) + (x1 : Int) % 5 = (n1 : Int) ∧ 1 ≤ n1 ∧ n1 ≤ 5 := ⟨1 + x1 % 5, by omega, by omega, by omega⟩
      have HN1 := Lib.hid hn1
      clear hn1
      go_wp2_with fail
      rw [HN1.out]
      refine (plain_from a0 len0 cap0 z0 3 n1 (by omega) _ R3.out hbig hn2 (by omega)).mono ?_
      rintro e w4 ⟨T, hT1, hT2, rfl, b4⟩
      have R4 := Lib.hid (below_bytes R3.out b4)
      have B4 := Lib.hid (B3.out.trans (b4.mono B3.out.size))
      clear b4 R3 B3
      go_wp2_with fail
      refine (at_some a0 len0 cap0 z0 2 _ _ R4.out hbig (by omega)).mono ?_
      rintro e w5 ⟨x2, h2, rfl, rfl⟩
      obtain ⟨p, hp⟩ : ∃ p : Bool, ((x2 : Int) % 2 == 0) = p := ⟨_, rfl⟩
      obtain ⟨Z, hZ, hZs⟩ := text_of (wrapB T.data.toList p)
      have hTl : T.data.toList.length = T.size := by simp
      have hZ5 := wrapB_len p (l := T.data.toList) (by rw [hTl]; omega)
      rw [← hZs, hTl] at hZ5
      obtain ⟨hZ5, hZ6⟩ := hZ5
      have hZ9 : Z.size ≤ 1845 := by omega
      have HZ := Lib.hid hZ
      have HTL := Lib.hid (show T.data.toList.length ≤ 2000 by rw [hTl]; omega)
      clear hZ hZs hTl hZ5
      go_wp2_with fail
      try rw [hp]
      refine (specWrap T Z p HZ.out _).mono ?_
      rintro e w5 ⟨rfl, b5⟩
      have R5 := Lib.hid (below_bytes R4.out b5)
      have B5 := Lib.hid (B4.out.trans (b5.mono B4.out.size))
      clear b5 R4 B4 hp
      obtain ⟨cap, W, hcv, hbuf, hcap⟩ := buf_new w5 Z
      have HBF := Lib.hid hbuf
      have RW := Lib.hid (below_bytes R5.out hbuf.below)
      clear hbuf R5
      go_wp2_with fail
      refine (at_some a0 len0 cap0 z0 4 _ _ RW.out hbig (by omega)).mono ?_
      rintro e w9 ⟨x4, h4, rfl, rfl⟩
      clear hcv
      obtain ⟨n, hn, hn9⟩ : ∃ n : Nat, ((x4 : Int) % (Z.size : Int)) = (n : Int) ∧ n < Z.size := ⟨x4 % Z.size, by simp, Nat.mod_lt _ (by omega)⟩
      have HN := Lib.hid hn
      have hd0 : ((Z.size : Int) == 0) = false := beq_eq_false_iff_ne.2 (by omega)
      clear hn
      go_wp2_with fail
      rw [HN.out]
      obtain ⟨v, hv, hv2, hcall⟩ := at_one a0 len0 cap0 z0 5 _ RW.out hbig (by omega)
      have hZL : Z.data.toList.length = Z.size := by simp
      have hcell := HBF.out.cell n (by omega)
      have hfro := HBF.out.frozen n (by omega)
      unfold u8v at hcell
      obtain ⟨c, hc⟩ : ∃ c, Z.data.toList.getD n 0 = c := ⟨_, rfl⟩
      rw [hc] at hcell
      have HC := Lib.hid hc
      have HCALL := Lib.hid hcall
      have i1 : (n : Int) < (Z.size : Int) := by omega
      clear hc hcall hd0
      refine wp_region_still_tail 13 (by kernel_rfl) (by kernel_rfl) ?_
      simp only [List.take_succ_cons, List.take_zero, List.drop_succ_cons, List.drop_zero]
      iterate 7 still_step
      still_call (HCALL.out _ (fun _ => rfl) rfl)
      iterate 5 still_step
      refine wpStill_nil ?_
      change wpList _ _ _ _ _ W.drew
      have HB2 := Lib.hid ((HBF.out.set n (turned c v) (turned_val c v)).drewN 1)
      have hcv2 : (convert 22 9 (.slice (some ⟨w5.heap.size, 0, none⟩) Z.size cap)).run Try.prog (W.setCell ⟨w5.heap.size, n, none⟩ (.int .u8 (bits .xor .u8 (c.toNat : Int) (1 + (v : Int) % 255)))).drew = .ok (.string ⟨(Z.data.toList.set n (turned c v)).toArray⟩) (W.setCell ⟨w5.heap.size, n, none⟩ (.int .u8 (bits .xor .u8 (c.toNat : Int) (1 + (v : Int) % 255)))).drew :=
        HB2.out.str (by rw [List.length_set]; exact hZL)
      have HBZ := Lib.hid (B5.out.trans (HB2.out.below.mono B5.out.size))
      have hbad := unwrap_changed p HTL.out n (turned c v) (by rw [← HZ.out, hZL]; exact hn9) (by rw [← HZ.out, HC.out]; exact turned_ne c v)
      rw [← HZ.out] at hbad
      have HBAD := Lib.hid hbad
      obtain ⟨U, hU⟩ : ∃ U : ByteArray, (⟨(Z.data.toList.set n (turned c v)).toArray⟩ : ByteArray) = U := ⟨_, rfl⟩
      have hUs : U.size ≤ 2000 := by rw [← hU, text_size, List.length_set, hZL]; omega
      have HUD := Lib.hid (show U.data.toList = Z.data.toList.set n (turned c v) by rw [← hU])
      rw [hU] at hcv2
      clear hU hbad hZL HB2
      go_wp2_with fail
      refine (implUnwrap U ⟨#[]⟩ 2 (by omega) (by rw [HUD.out, HBAD.out]) _).mono ?_
      rintro e w6 ⟨rfl, b6⟩
      have B6 := Lib.hid (HBZ.out.trans (b6.mono HBZ.out.size))
      clear b6 HBZ hcv2 hcell hfro
      have h44 := head4 Z (by omega)
      have j1 : (4 : Int) ≤ (Z.size : Int) := by omega
      obtain ⟨F, hF⟩ : ∃ F, Z.extract 0 4 = F := ⟨_, rfl⟩
      rw [hF] at h44
      go_wp2_with fail
      refine (implUnwrap F ⟨#[]⟩ 1 (by omega) (by rw [unwrap_short (by have : F.data.toList.length = F.size := (by simp); omega)]) _).mono ?_
      rintro e w7 ⟨rfl, b7⟩
      have B7 := Lib.hid (B6.out.trans (b7.mono B6.out.size))
      clear b7 h44
      obtain ⟨S2, hS2, hS2s⟩ := text_of (sealedB [97, 98, 2])
      obtain ⟨S1, hS1, hS1s⟩ := text_of (sealedB [97, 98, 1])
      rw [sealed_len] at hS2s hS1s
      have HS2 := Lib.hid hS2
      have HS1 := Lib.hid hS1
      have l1 : S1.size ≤ 1048576 := by rw [hS1s]; decide
      have l2 : S2.size ≤ 1048576 := by rw [hS2s]; decide
      clear hS1 hS2 hS2s hS1s
      go_wp2_with fail
      refine (specSealed_as ⟨#[97, 98, 2]⟩ S2 (by decide) HS2.out _).mono ?_
      rintro e w8 ⟨rfl, b8⟩
      have B8 := Lib.hid (B7.out.trans (b8.mono B7.out.size))
      clear b8
      go_wp2_with fail
      refine (implUnwrap S2 ⟨#[]⟩ 3 l2 (by rw [HS2.out, unwrap_mark2]) _).mono ?_
      rintro e w9 ⟨rfl, b9⟩
      have B9 := Lib.hid (B8.out.trans (b9.mono B8.out.size))
      clear b9
      go_wp2_with fail
      refine (specSealed_as ⟨#[97, 98, 1]⟩ S1 (by decide) HS1.out _).mono ?_
      rintro e w10 ⟨rfl, b10⟩
      have B10 := Lib.hid (B9.out.trans (b10.mono B9.out.size))
      clear b10
      go_wp2_with fail
      refine (implUnwrap S1 ⟨#[]⟩ 4 l1 (by rw [HS1.out, unwrap_mark1]) _).mono ?_
      rintro e w11 ⟨rfl, b11⟩
      have B11 := Lib.hid (B10.out.trans (b11.mono B10.out.size))
      clear b11
      go_wp2
      go_ret
      exact ⟨rfl, B11.out⟩
  · go_enter Try.func4, Try.ntmps4
    go_wp2_with fail
    refine (big_yes a0 len0 cap0 _ hbig).mono ?_
    rintro e w1 ⟨rfl, rfl⟩
    go_wp2
    go_ret
    exact ⟨rfl, Below.refl _ _⟩
end Go.Proofs.Ytgonnibakkabjab
