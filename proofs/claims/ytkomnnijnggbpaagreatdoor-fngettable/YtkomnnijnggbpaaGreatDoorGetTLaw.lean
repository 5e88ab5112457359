/- The walk of the law FnGetTable: what is read is put so, and only so. -/
import Derived.Test.YtkomnnijnggbpaaGreatDoorTabLaws
import Derived.Test.YtkomnnijnggbpaaGreatDoorDrawTabG
import Derived.Test.YtkomnnijnggbpaaGreatDoorSameCels
import Derived.Test.YtkomnnijnggbpaaGreatDoorTabMore
import Derived.Test.YtkomnnijnggbpaaGreatDoorMayTabS
import Derived.Test.YtkomnnijnggbpaaGreatDoorBig
namespace Go.Proofs.YtkomnnijnggbpaaGreatDoor
open Go.RowKit
set_option linter.unusedVariables false

set_option maxHeartbeats 4000000 in
set_option maxRecDepth 100000 in
theorem fnGetTable_walk (a0 : Option Addr) (len0 cap0 : Nat) (z0 : List Int) (w : World) (w0 : IsRow .u8 w a0 len0 cap0 z0) (hL : ErrLaid w) :
   Calls Tryz.prog 4 #[.slice a0 len0 cap0] w fun e w' => e = .returned (.bool true) ∧ Below w.heap.size w w' := by
 have HR := Lib.hid (bytes_of_row w0 w.heap.size (Nat.le_refl _))
 have HERR := Lib.hid hL
 have hl0 := hL.lt
 clear w0 hL
 by_cases hbig : len0 ≤ 1048576
 · go_enter Tryz.func4, Tryz.ntmps4
   go_wp2_with fail
   refine (big_no a0 len0 cap0 _ hbig).mono ?_
   rintro e w1 ⟨rfl, rfl⟩
   go_wp2_with fail
   refine (drawGetTable_at a0 len0 cap0 z0 _ HR.out).mono ?_
   rintro e w1 ⟨S, rfl, hSs, b1⟩
   have B1 := Lib.hid b1
   obtain ⟨xs, cf, k, hT⟩ := tab_some S.data.toList
   obtain ⟨ev, sz, pk⟩ := cf
   have HT := Lib.hid hT
   have hk2 := tab_code hT
   have hx60 := (tab_few hT).1
   have hkk : ((k : Int) != (k : Int)) = false := by simp
   have hpp : (pk != pk) = false := by simp
   obtain ⟨n, hn⟩ : ∃ n, xs.length = n := ⟨_, rfl⟩
   have HN := Lib.hid hn
   rw [hn] at hx60
   clear b1 hT hn
   go_wp2_with fail
   refine (implGetTable S (by omega) _ (HERR.out.below B1.out hl0)).mono ?_
   rintro e w2 ⟨v1, xs', cf', k', rfl, hT', o2, b2⟩
   obtain ⟨rfl, rfl, rfl⟩ := tab_one HT.out hT'
   obtain ⟨ad1, cap1, rfl⟩ := own_slice o2
   unfold confV
   have K2 := Lib.hid (one_below w2 (.cells #[.int .i64 ev, .int .i64 sz, .bool pk] 26))
   have X2 := Lib.hid (alloc_at w2 (.cells #[.int .i64 ev, .int .i64 sz, .bool pk] 26))
   have O2 := Lib.hid (o2.below K2.out).row
   have B2 := Lib.hid ((B1.out.trans (b2.mono B1.out.size)).trans (K2.out.mono (Nat.le_trans B1.out.size b2.size)))
   clear hT' o2 b2 K2
   rw [HN.out] at O2 ⊢
   obtain ⟨wa, hwa⟩ : ∃ X, w2.alloc (.cells #[.int .i64 ev, .int .i64 sz, .bool pk] 26) = X := ⟨_, rfl⟩
   obtain ⟨ga, hga⟩ : ∃ g, w2.heap.size = g := ⟨_, rfl⟩
   rw [hwa, hga] at X2
   rw [hwa] at O2 B2
   go_wp2_with fail
   clear hwa hga
   refine (specGetTable S (by omega) _).mono ?_
   rintro e w3 ⟨v2, xs', cf', k', rfl, hT', o3, b3⟩
   obtain ⟨rfl, rfl, rfl⟩ := tab_one HT.out hT'
   obtain ⟨ad2, cap2, rfl⟩ := own_slice o3
   unfold confV
   have K3 := Lib.hid (one_below w3 (.cells #[.int .i64 ev, .int .i64 sz, .bool pk] 26))
   have X3 := Lib.hid (keeps_block (keeps_block X2.out b3) K3.out)
   have Y3 := Lib.hid (alloc_at w3 (.cells #[.int .i64 ev, .int .i64 sz, .bool pk] 26))
   have R3 := Lib.hid ((O2.out.below b3).below K3.out)
   have O3 := Lib.hid (o3.below K3.out).row
   have B3 := Lib.hid ((B2.out.trans (b3.mono B2.out.size)).trans (K3.out.mono (Nat.le_trans B2.out.size b3.size)))
   clear hT' o3 b3 K3
   rw [HN.out] at O3 ⊢
   obtain ⟨wb, hwb⟩ : ∃ X, w3.alloc (.cells #[.int .i64 ev, .int .i64 sz, .bool pk] 26) = X := ⟨_, rfl⟩
   obtain ⟨gb, hgb⟩ : ∃ g, w3.heap.size = g := ⟨_, rfl⟩
   rw [hwb, hgb] at Y3
   rw [hwb] at X3 R3 O3 B3
   obtain ⟨x0, x1, x2⟩ := conf_cells X3.out
   obtain ⟨y0, y1, y2⟩ := conf_cells Y3.out
   go_wp2_with fail
   clear hwb hgb x0 x1 x2 y0 y1 y2
   refine (sameCells_same ad1 ad2 n cap1 cap2 xs (by omega) _ R3.out O3.out).mono ?_
   rintro e w4 ⟨rfl, b4⟩
   have X4 := Lib.hid (keeps_block X3.out b4)
   have R4 := Lib.hid (R3.out.below b4)
   have B4 := Lib.hid (B3.out.trans (b4.mono B3.out.size))
   obtain ⟨x0, x1, x2⟩ := conf_cells X4.out
   clear b4
   rcases HT.out with ⟨hk0, hok, htb⟩ | ⟨hxs, hcf, hk, _⟩
   · subst hk0
     have HP := Lib.hid (show putTable xs ⟨ev, sz, pk⟩ = S.data.toList by rw [put_yes7 hok, htb])
     clear hok htb
     go_wp2_with fail
     refine (implPutTable ad1 n cap1 xs ev sz pk (by omega) (tab_fit HT.out) _ R4.out.o).mono ?_
     intro e w5 h5
     obtain ⟨S', hS', hz', rfl, b5⟩ := h5.text
     rw [HP.out] at hS'
     obtain rfl : S' = S := bytes_ext hS'
     have B5 := Lib.hid (B4.out.trans (b5.mono B4.out.size))
     clear h5 hS' hz' b5 x0 x1 x2
     go_wp2
     go_ret
     exact ⟨ret_bool (by simp), B5.out⟩
   · have hn0 : n = 0 := by rw [← HN.out, hxs]; rfl
     subst hn0
     unfold zeroConf at hcf
     cases hcf
     have hSl : S.data.toList.length = S.size := by simp
     by_cases h38 : S.size < 38
     · have hk1 : k = 1 := by
         rw [hk, if_neg]
         intro h
         have := h.1
         omega
       subst hk1
       have h38i : (S.size : Int) < 38 := by omega
       clear hk hxs
       go_wp2
       go_ret
       exact ⟨rfl, B4.out⟩
     · obtain ⟨mg, hmg⟩ : ∃ b, ((S.extract (S.size - 6) S.size).toList == [83, 72, 69, 76, 70, 49]) = b := ⟨_, rfl⟩
       have HMG := Lib.hid (show endsRight S.data.toList ↔ mg = true by
         rw [← hmg, beq_iff_eq, ByteArray.toList_eq, drop_of_extract]
         unfold endsRight
         rw [hSl]
         exact ⟨fun h => h.2, fun h => ⟨by omega, h⟩⟩)
       have h38i : ¬ (S.size : Int) < 38 := by omega
       have h6 : (6 : Int) ≤ (S.size : Int) := by omega
       cases mg
       · have hk1 : k = 1 := by
           rw [hk, if_neg]
           intro h
           cases HMG.out.1 h
         subst hk1
         clear hk hxs hSl
         go_wp2
         go_ret
         exact ⟨rfl, B4.out⟩
       · have hk1 : k = 2 := by rw [hk, if_pos (HMG.out.2 rfl)]
         subst hk1
         clear hk hxs hSl
         go_wp2
         go_ret
         exact ⟨ret_bool (by simp; omega), B4.out⟩
 · go_enter Tryz.func4, Tryz.ntmps4
   go_wp2_with fail
   refine (big_yes a0 len0 cap0 _ (by omega)).mono ?_
   rintro e w1 ⟨rfl, rfl⟩
   go_wp2
   go_ret
   exact ⟨rfl, Below.refl _ _⟩
end Go.Proofs.YtkomnnijnggbpaaGreatDoor
