/- The model's ReadKey. -/
import Derived.Test.YtkomnnijnggbpaaGreatDoorReadKeyI
import Derived.Test.YtkomnnijnggbpaaGreatDoorZ0
import Derived.BigQuiet
import Derived.Deep.RegionHeld3
namespace Go.Proofs.YtkomnnijnggbpaaGreatDoor
open Go.RowKit
set_option linter.unusedVariables false

theorem or_four (a b c d : UInt8) : bits .or .i64 (bits .or .i64 (bits .or .i64 ((a.toNat : Int) * 16777216) ((b.toNat : Int) * 65536)) ((c.toNat : Int) * 256)) (d.toNat : Int) = ((fixVal [a, b, c, d].reverse : Nat) : Int) := by
 have ha := a.toNat_lt
 have hb := b.toNat_lt
 have hc := c.toNat_lt
 have hd := d.toNat_lt
 have e1 : (a.toNat : Int) * 16777216 = ((2 ^ 24 * a.toNat : Nat) : Int) := by omega
 have e2 : (b.toNat : Int) * 65536 = ((2 ^ 16 * b.toNat : Nat) : Int) := by omega
 have e3 : (c.toNat : Int) * 256 = ((2 ^ 8 * c.toNat : Nat) : Int) := by omega
 rw [e1, e2, e3, i64_or_nat _ _ (by omega) (by omega), ← Nat.two_pow_add_eq_or_of_lt (by omega : 2 ^ 16 * b.toNat < 2 ^ 24)]
 have e4 : 2 ^ 24 * a.toNat + 2 ^ 16 * b.toNat = 2 ^ 16 * (2 ^ 8 * a.toNat + b.toNat) := by omega
 rw [e4, i64_or_nat _ _ (by omega) (by omega), ← Nat.two_pow_add_eq_or_of_lt (by omega : 2 ^ 8 * c.toNat < 2 ^ 16)]
 have e5 : 2 ^ 16 * (2 ^ 8 * a.toNat + b.toNat) + 2 ^ 8 * c.toNat = 2 ^ 8 * (2 ^ 8 * (2 ^ 8 * a.toNat + b.toNat) + c.toNat) := by omega
 rw [e5, i64_or_nat _ _ (by omega) (by omega), ← Nat.two_pow_add_eq_or_of_lt (by omega : d.toNat < 2 ^ 8), four_val]
 omega
theorem or_fourW (a b c d : UInt8) : bits .or .i64 (bits .or .i64 (bits .or .i64 (wrap64 (wrap64 (a.toNat : Int) * 16777216)) (wrap64 (wrap64 (b.toNat : Int) * 65536))) (wrap64 (wrap64 (c.toNat : Int) * 256))) (wrap64 (d.toNat : Int)) = ((fixVal [a, b, c, d].reverse : Nat) : Int) := by
 have ha := a.toNat_lt
 have hb := b.toNat_lt
 have hc := c.toNat_lt
 have hd := d.toNat_lt
 have h : ∀ x : Int, 0 ≤ x → x < 9223372036854775808 → wrap64 x = x := fun x h0 h1 => by unfold wrap64; omega
 rw [h (a.toNat : Int) (by omega) (by omega), h (b.toNat : Int) (by omega) (by omega), h (c.toNat : Int) (by omega) (by omega), h (d.toNat : Int) (by omega) (by omega), h _ (by omega) (by omega), h _ (by omega) (by omega), h _ (by omega) (by omega), or_four]
theorem mid_part (s : ByteArray) (i j : Nat) (h : j + 5 = s.size) : (s.extract (i + 1) j).data.toList = sp2 s.data.toList i := by
 have hl : s.data.toList.length = s.size := by simp
 simp only [ByteArray.data_extract, Array.toList_extract, List.extract_eq_take_drop]
 unfold sp2
 rw [hl, show s.size - 5 - (i + 1) = j - (i + 1) by omega]
theorem last_four (s : ByteArray) (j : Nat) (h : j + 5 = s.size) : s.data.toList.drop (s.data.toList.length - 4) = [s[j + 1]'(by omega), s[j + 2]'(by omega), s[j + 3]'(by omega), s[j + 4]'(by omega)] := by
 have hl : s.data.toList.length = s.size := by simp
 rw [hl, show s.size - 4 = j + 1 by omega, List.drop_eq_getElem_cons (by rw [hl]; omega), List.drop_eq_getElem_cons (by rw [hl]; omega), List.drop_eq_getElem_cons (by rw [hl]; omega), List.drop_eq_getElem_cons (by rw [hl]; omega), List.drop_eq_nil_of_le (by rw [hl]; omega)]
 rfl

set_option maxHeartbeats 2000000 in
set_option maxRecDepth 100000 in
theorem specReadKey (s : ByteArray) (hs : s.size ≤ 1048576) (w : World) : Calls Tryz.prog 158 #[.string s] w (ReadOut s w) := by
 have hll : s.data.toList.length = s.size := by simp
 have HLL := Lib.hid hll
 clear hll
 go_enter Tryz.func158, Tryz.ntmps158
 go_wp2_with fail
 go_loopw [5] (fun ii wr => ∃ i : Nat, i ≤ s.size ∧ ii = .int .i64 i ∧ Hid (∀ j, j < i → ∃ c, s.data.toList[j]? = some c ∧ c ≠ 0) ∧ ∃ n, wr = w.drewN n) (fun ii _ => s.size - (intOf ii).toNat)
 case atStart => exact ⟨0, Nat.zero_le _, rfl, fun j hj => absurd hj (by omega), 0, rfl⟩
 case round =>
   obtain ⟨i, hi, rfl, HJ, n, rfl⟩ := hrel
   by_cases hgo : ∃ h : i < s.size, s[i] ≠ 0
   · obtain ⟨hlt, hne⟩ := hgo
     have i1 : (i : Int) < (s.size : Int) := by omega
     have HB := Lib.hid (byte_get s i hlt)
     have hb : ((s[i].toNat : Int) == 0) = false := by
       have : s[i].toNat ≠ 0 := fun e => hne (UInt8.toNat_inj.1 (by simpa using e))
       simpa using this
     have HNE := Lib.hid hne
     clear hne
     go_wp2
     go_roundw
     case rel =>
       refine ⟨i + 1, by omega, by go_num, ?_, _, rfl⟩
       intro j hj
       by_cases hj2 : j < i
       · exact HJ.out j hj2
       · obtain rfl : j = i := by omega
         exact ⟨_, HB.out, HNE.out⟩
     case measure => simp [intOf]; omega
   · have hend : i = s.size ∨ ∃ h : i < s.size, s[i] = 0 := by
       by_cases hlt : i < s.size
       · refine .inr ⟨hlt, ?_⟩
         apply Classical.byContradiction
         intro hne
         exact hgo ⟨hlt, hne⟩
       · exact .inl (by omega)
     have HCUT := Lib.hid (cut1_at (l := s.data.toList) (k := i) (by rw [HLL.out]; exact hi) HJ.out (by
       rcases hend with h | ⟨h, h0⟩
       · exact .inl (by rw [HLL.out]; exact h)
       · exact .inr (by rw [byte_get s i h, h0])))
     have HCL := Lib.hid (show (cut1 s.data.toList).length = i by rw [HCUT.out, List.length_take, HLL.out]; omega)
     clear hgo
     by_cases hfew : s.size ≤ i + 5
     · have HN := Lib.hid (read_spec_few (l := s.data.toList) (by rw [HLL.out, HCL.out]; exact hfew))
       have hge : (s.size : Int) - 5 ≤ (i : Int) := by omega
       rcases hend with rfl | ⟨hlt, h0⟩
       · go_wp2
         exact bodyPost_ret (results_tmp3 rfl _ _ _) rfl ⟨⟨#[]⟩, ⟨#[]⟩, -1, HN.out, rfl, below_draws _⟩
       · have i1 : (i : Int) < (s.size : Int) := by omega
         have hb : ((s[i].toNat : Int) == 0) = true := by rw [h0]; rfl
         clear h0
         go_wp2
         exact bodyPost_ret (results_tmp3 rfl _ _ _) rfl ⟨⟨#[]⟩, ⟨#[]⟩, -1, HN.out, rfl, below_draws _⟩
     · have hlt : i < s.size := by omega
       have h0 : s[i] = 0 := by
         rcases hend with h | ⟨_, h⟩
         · omega
         · exact h
       have i1 : (i : Int) < (s.size : Int) := by omega
       have hb : ((s[i].toNat : Int) == 0) = true := by rw [h0]; rfl
       clear h0 hend
       obtain ⟨j, hj⟩ : ∃ j, j + 5 = s.size := ⟨s.size - 5, by omega⟩
       have ej : (s.size : Int) - 5 = (j : Int) := by omega
       have hij : i < j := by omega
       have k0 : (i : Int) < (j : Int) := by omega
       have k1 : (j : Int) + 1 < (s.size : Int) := by omega
       have k2 : (j : Int) + 2 < (s.size : Int) := by omega
       have k3 : (j : Int) + 3 < (s.size : Int) := by omega
       have k4 : (j : Int) + 4 < (s.size : Int) := by omega
       have t1 : ((j : Int) + 1).toNat = j + 1 := by omega
       have t2 : ((j : Int) + 2).toNat = j + 2 := by omega
       have t3 : ((j : Int) + 3).toNat = j + 3 := by omega
       have t4 : ((j : Int) + 4).toNat = j + 4 := by omega
       have x1 : (i : Int) + 1 ≤ (j : Int) := by omega
       have x2 : ((i : Int) + 1).toNat = i + 1 := by omega
       have x3 : (j : Int) ≤ (s.size : Int) := by omega
       have x4 : (0 : Int) ≤ (i : Int) + 1 := by omega
       have v1 : IntKind.i64.wrap ((j : Int) + 1) = (j : Int) + 1 := IntWalk.i64_in _ (by omega)
       have v2 : IntKind.i64.wrap ((j : Int) + 2) = (j : Int) + 2 := IntWalk.i64_in _ (by omega)
       have v3 : IntKind.i64.wrap ((j : Int) + 3) = (j : Int) + 3 := IntWalk.i64_in _ (by omega)
       have v4 : IntKind.i64.wrap ((j : Int) + 4) = (j : Int) + 4 := IntWalk.i64_in _ (by omega)
       have y1 : (0 : Int) ≤ (j : Int) + 1 := by omega
       have y2 : (0 : Int) ≤ (j : Int) + 2 := by omega
       have y3 : (0 : Int) ≤ (j : Int) + 3 := by omega
       have y4 : (0 : Int) ≤ (j : Int) + 4 := by omega
       go_wp2_with fail
       go_quiet (fail)
       rw [or_fourW]
       have HM3 := Lib.hid (last_four s j hj)
       have hm9 := fixVal_lt [s[j + 1], s[j + 2], s[j + 3], s[j + 4]].reverse
       rw [show 2 ^ (8 * [s[j + 1], s[j + 2], s[j + 3], s[j + 4]].reverse.length) = 4294967296 by simp] at hm9
       have HT := Lib.hid (show sp3 s.data.toList = 1000000000 - (fixVal [s[j + 1], s[j + 2], s[j + 3], s[j + 4]].reverse : Nat) by unfold sp3; rw [HM3.out])
       obtain ⟨m, hm⟩ : ∃ m, fixVal [s[j + 1], s[j + 2], s[j + 3], s[j + 4]].reverse = m := ⟨_, rfl⟩
       rw [hm] at hm9 HT ⊢
       clear hm
       generalize wrap64 (s[j + 1].toNat : Int) = o1
       generalize wrap64 (s[j + 2].toNat : Int) = o2
       generalize wrap64 (s[j + 3].toNat : Int) = o3
       generalize wrap64 (s[j + 4].toNat : Int) = o4
       have HR := Lib.hid (show (s.extract 0 i).data.toList = cut1 s.data.toList by rw [part_take, HCUT.out])
       have HC := Lib.hid (show (s.extract (i + 1) j).data.toList = sp2 s.data.toList (cut1 s.data.toList).length by rw [HCL.out, mid_part s i j hj])
       have hRs : (s.extract 0 i).size ≤ 1048576 := by rw [ByteArray.size_extract]; omega
       have hCs : (s.extract (i + 1) j).size ≤ 1048576 := by rw [ByteArray.size_extract]; omega
       obtain ⟨R, hR⟩ : ∃ R, s.extract 0 i = R := ⟨_, rfl⟩
       obtain ⟨C, hC⟩ : ∃ C, s.extract (i + 1) j = C := ⟨_, rfl⟩
       rw [hR] at HR hRs
       rw [hC] at HC hCs
       have z1 : IntKind.i64.wrap ((i : Int) + 1) = (i : Int) + 1 := IntWalk.i64_in _ (by omega)
       have z2 : IntKind.i64.wrap (1000000000 - (m : Int)) = 1000000000 - (m : Int) := IntWalk.i64_in _ (by omega)
       go_wp2_with fail
       go_region_held3 (fun w' => True) (exact trivial) (first | (go_at_call 56; refine (specKeyOf R C (1000000000 - m) (by unfold maxLen; omega) (by unfold maxLen; omega) _).mono ?_; rw [HR.out, HC.out, ← HT.out]; intro e w3 h3; obtain ⟨K, hK, hKz, rfl, hb3⟩ := h3.text; clear h3 hKz))
       have B3 := Lib.hid (((below_draws (B := w.heap.size) (w := w) (n + nq + 1)).trans (hb3.mono (by simp))))
       clear hb3
       have hne : s.data.toList ≠ [] := fun e => by have := HLL.out; rw [e] at this; simp at this; omega
       by_cases hsame : K.data.toList = s.data.toList
       · have e1 : (!K.toList == s.toList) = false := by rw [ByteArray.toList_eq, ByteArray.toList_eq, hsame]; simp
         have HN := Lib.hid (read_spec_yes (l := s.data.toList) hne (by rw [← hK]; exact hsame))
         clear hsame hK hne
         rw [e1]
         go_wp2_with fail
         go_quiet (fail)
         go_wp2_with fail
         refine bodyPost_ret (results_tmp3 rfl _ _ _) rfl ⟨R, C, 1000000000 - m, by rw [HR.out, HC.out, ← HT.out]; exact HN.out, rfl, B3.out.trans (below_draws _)⟩
       · have e1 : (!K.toList == s.toList) = true := by rw [ByteArray.toList_eq, ByteArray.toList_eq]; simpa using hsame
         have HN := Lib.hid (read_spec_no (l := s.data.toList) (by rw [← hK]; exact hsame))
         clear hsame hK hne
         rw [e1]
         go_wp2_with fail
         exact bodyPost_ret (results_tmp3 rfl _ _ _) rfl ⟨⟨#[]⟩, ⟨#[]⟩, -1, HN.out, rfl, B3.out⟩
end Go.Proofs.YtkomnnijnggbpaaGreatDoor
