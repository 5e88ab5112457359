/- Contract of the program's Crc. -/
import Derived.Test.YtjcgbpjgoacdjaaTurns
namespace Go.Proofs.Ytjcgbpjgoacdjaa
open Go.RowKit
set_option linter.unusedVariables false

def CrcIs (w : World) (n : Int) (e : Ending) (w' : World) : Prop := e = .returned (.int .i64 n) ∧ Below w.heap.size w w'

theorem table_turn (X : Nat) (c : UInt8) (h : X < 4294967296) : bits .xor .u32 ((X : Int) / 256) ((stN 8 ((X % 256) ^^^ c.toNat) : Nat) : Int) = ((crcB X c : Nat) : Int) := by
 have hc := c.toNat_lt
 have h1 : (X % 256) ^^^ c.toNat < 2 ^ 8 := Nat.xor_lt_two_pow (by omega) (by omega)
 have h2 := stN_lt (x := (X % 256) ^^^ c.toNat) 8 (by omega)
 have e : (X : Int) / 256 = ((X / 256 : Nat) : Int) := by omega
 rw [e, u32_xor_nat _ _ (by omega) h2, crcB_table]
theorem table_place (X : Nat) (c : UInt8) : bits .xor .u8 ((X : Int) % 256) (c.toNat : Int) = (((X % 256) ^^^ c.toNat : Nat) : Int) := by
 have hc := c.toNat_lt
 have e : (X : Int) % 256 = ((X % 256 : Nat) : Int) := by omega
 rw [e, u8_xor_nat _ _ (by omega) (by omega)]
theorem table_lt (X : Nat) (c : UInt8) : (X % 256) ^^^ c.toNat < 256 := by
 have hc := c.toNat_lt
 have h1 : (X % 256) ^^^ c.toNat < 2 ^ 8 := Nat.xor_lt_two_pow (by omega) (by omega)
 omega

set_option maxHeartbeats 1000000 in
set_option maxRecDepth 100000 in
theorem implCrc (s : ByteArray) (w : World) (hs : s.size ≤ maxLen) :
   Calls Try.prog 37 #[.string s] w (CrcIs w (crc s.data.toList : Nat)) := by
 unfold maxLen at hs
 obtain ⟨zl, hzl, hzn, hz⟩ := zeroT
 have hzs : (zl.map u32v).toArray.size = 256 := by rw [List.size_toArray, List.length_map, hzn]
 generalize (zl.map u32v).toArray = zs at hz hzs
 have HZS := Lib.hid hzs
 clear hzn hzl hzs
 go_enter Try.func37, Try.ntmps37
 go_wp2_with fail
 refine (sumTurns_at _).mono ?_
 rintro e w1 ⟨rfl, hb⟩
 have HB := Lib.hid hb
 have hcl : ((turnsTo 256).map u32v).toArray.size = 256 := by rw [List.size_toArray, List.length_map, turnsTo_length 256 (Nat.le_refl _)]
 have hone : ((turnsTo 256).map u32v).toArray.all (·.oneCell') = true := by
   rw [Array.all_eq_true_iff_forall_mem]
   intro x hx
   rw [List.mem_toArray] at hx
   obtain ⟨n, _, rfl⟩ := List.mem_map.1 hx
   rfl
 have hat : ∀ j, j < 256 → ((turnsTo 256).map u32v).toArray[j]? = some (u32v (stN 8 j)) := fun j hj => by
   rw [List.getElem?_toArray, List.getElem?_map, turnsTo_at j hj]; rfl
 generalize ((turnsTo 256).map u32v).toArray = CS at hcl hone hat ⊢
 have F1 := Lib.hid hcl
 have F2 := Lib.hid hone
 have F3 := Lib.hid hat
 clear hb hcl hone hat
 go_wp2_with (refine wpList_store_row rfl 73 _ _ rfl w1.heap.size CS rfl rfl _ zs (heap_alloc_new _ _) (by rw [sizeT, F1.out]) (by rw [HZS.out, F1.out]) F2.out ?_)
 have HC := Lib.hid (show ∀ j, j < 256 → ((w1.alloc (.cells zs 73)).setRow w1.heap.size CS).cell? ⟨w1.heap.size, j, none⟩ = some (u32v (stN 8 j)) from fun j hj => by
   rw [cell_setRow_same _ _ _ zs CS _ _ (heap_alloc_new _ _)]; exact F3.out j hj)
 have HB2 := Lib.hid (below_setRow (g := w1.heap.size) (HB.out.alloc HB.out.size (.cells zs 73)) HB.out.size CS)
 generalize (w1.alloc (.cells zs 73)).setRow w1.heap.size CS = w2 at HC HB2 ⊢
 clear hz HZS F1 F2 F3 HB
 go_loop [4, 9] (fun x i => ∃ k : Nat, k ≤ s.size ∧ i = .int .i64 k ∧ x = .int .u32 (crcF 4294967295 (s.data.toList.take k) : Nat)) (fun _ i => s.size - (intOf i).toNat)
 case atStart => exact ⟨0, Nat.zero_le _, rfl, rfl⟩
 case round =>
   obtain ⟨k, hk, rfl, rfl⟩ := hrel
   have hX := crcF_lt (s.data.toList.take k) (x := 4294967295) (by omega)
   by_cases hlt : k < s.size
   · have HS := Lib.hid (show crcF 4294967295 (s.data.toList.take (k + 1)) = crcB (crcF 4294967295 (s.data.toList.take k)) s[k] by rw [take_snoc s k hlt, crcF_snoc])
     have hc := s[k].toNat_lt
     generalize crcF 4294967295 (s.data.toList.take k) = X at HS hX ⊢
     have HT := Lib.hid (table_turn X s[k] hX)
     have hp := table_place X s[k]
     have hl := table_lt X s[k]
     have hcell := HC.out _ hl
     generalize (X % 256) ^^^ s[k].toNat = Y at HT hp hl hcell
     unfold u32v at hcell
     obtain ⟨v, hv⟩ : ∃ v, ((stN 8 Y : Nat) : Int) = v := ⟨_, rfl⟩
     rw [hv] at hcell HT
     have HX := Lib.hid hX
     clear hX hv
     have i1 : (k : Int) < (s.size : Int) := by omega
     have i3 : (Y : Int) < 256 := by omega
     go_wp2
     go_round
     case rel => exact ⟨k + 1, by omega, by go_num, congrArg (Value.int IntKind.u32) (by rw [HT.out, HS.out])⟩
     case measure => simp [intOf]; omega
   · obtain rfl : k = s.size := by omega
     have e0 : s.data.toList.take s.size = s.data.toList := List.take_of_length_le (by simp)
     rw [e0] at hX ⊢
     have HT := Lib.hid (crc_end s.data.toList)
     clear e0 hX
     go_wp2
     go_ret
     exact ⟨ret_int HT.out, HB2.out⟩
end Go.Proofs.Ytjcgbpjgoacdjaa
