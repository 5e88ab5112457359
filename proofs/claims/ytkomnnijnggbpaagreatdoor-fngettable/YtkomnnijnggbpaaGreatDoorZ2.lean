/- Contract of the program's Crc. -/
import Derived.Test.YtkomnnijnggbpaaGreatDoorTurns
import Derived.Test.YtkomnnijnggbpaaGreatDoorZ0
import Derived.Test.YtkomnnijnggbpaaGreatDoorCopy
import Derived.StillTailTactics
import Derived.BigQuiet
import Derived.Test.YtkomnnijnggbpaaGreatDoorZ1
namespace Go.Proofs.YtkomnnijnggbpaaGreatDoor
open Go.RowKit
set_option linter.unusedVariables false

def CrcIs (w : World) (n : Int) (e : Ending) (w' : World) : Prop := e = .returned (.int .i64 n) ∧ Below w.heap.size w w'

theorem table_turn (X : Nat) (c : UInt8) (h : X < 4294967296) : bits .xor .u32 ((X : Int) / 256) ((stN 8 ((X % 256) ^^^ c.toNat) : Nat) : Int) = ((crcB X c : Nat) : Int) := by
 have hc := c.toNat_lt
 have h1 : (X % 256) ^^^ c.toNat < 2 ^ 8 := Nat.xor_lt_two_pow (by omega) (by omega)
 have h2 := stN_lt (x := (X % 256) ^^^ c.toNat) 8 (by omega)
 have e : (X : Int) / 256 = ((X / 256 : Nat) : Int) := by omega
 rw [e, u32_xor_nat _ _ (by omega) h2, crcB_table]
theorem table_place (X : Nat) (c : UInt8) : bits .xor .u8 ((X : Int) % 256) (c.toNat : Int) = (((X % 256) ^^^ c.toNat : Nat) : Int) := by
 have hc := c.toNat_lt
 have e : (X : Int) % 256 = ((X % 256 : Nat) : Int) := by omega
 rw [e, u8_xor_nat _ _ (by omega) (by omega)]
theorem table_lt (X : Nat) (c : UInt8) : (X % 256) ^^^ c.toNat < 256 := by
 have hc := c.toNat_lt
 have h1 : (X % 256) ^^^ c.toNat < 2 ^ 8 := Nat.xor_lt_two_pow (by omega) (by omega)
 omega

set_option maxHeartbeats 1000000 in
set_option maxRecDepth 100000 in
theorem implCrc (s : ByteArray) (w : World) (hs : s.size ≤ maxLen) :
   Calls Tryz.prog 129 #[.string s] w (CrcIs w (crc s.data.toList : Nat)) := by
 unfold maxLen at hs
 obtain ⟨zl, hzl, hzn, hz⟩ := zeroT
 have hzs : (zl.map u32v).toArray.size = 256 := by rw [List.size_toArray, List.length_map, hzn]
 generalize (zl.map u32v).toArray = zs at hz hzs
 have HZS := Lib.hid hzs
 clear hzn hzl hzs
 go_enter Tryz.func129, Tryz.ntmps129
 go_wp2_with fail
 refine (sumTurns_at _).mono ?_
 rintro e w1 ⟨rfl, hb⟩
 have HB := Lib.hid hb
 have hcl : ((turnsTo 256).map u32v).toArray.size = 256 := by rw [List.size_toArray, List.length_map, turnsTo_length 256 (Nat.le_refl _)]
 have hone : ((turnsTo 256).map u32v).toArray.all (·.oneCell') = true := by
   rw [Array.all_eq_true_iff_forall_mem]
   intro x hx
   rw [List.mem_toArray] at hx
   obtain ⟨n, _, rfl⟩ := List.mem_map.1 hx
   rfl
 have hat : ∀ j, j < 256 → ((turnsTo 256).map u32v).toArray[j]? = some (u32v (stN 8 j)) := fun j hj => by
   rw [List.getElem?_toArray, List.getElem?_map, turnsTo_at j hj]; rfl
 generalize ((turnsTo 256).map u32v).toArray = CS at hcl hone hat ⊢
 have F1 := Lib.hid hcl
 have F2 := Lib.hid hone
 have F3 := Lib.hid hat
 clear hb hcl hone hat
 go_wp2_with (refine wpList_store_row rfl 192 _ _ rfl w1.heap.size CS rfl rfl _ zs (heap_alloc_new _ _) (by rw [sizeT, F1.out]) (by rw [HZS.out, F1.out]) F2.out ?_)
 have HC := Lib.hid (show ∀ j, j < 256 → ((w1.alloc (.cells zs 192)).setRow w1.heap.size CS).cell? ⟨w1.heap.size, j, none⟩ = some (u32v (stN 8 j)) from fun j hj => by
   rw [cell_setRow_same _ _ _ zs CS _ _ (heap_alloc_new _ _)]; exact F3.out j hj)
 have HB2 := Lib.hid (below_setRow (g := w1.heap.size) (HB.out.alloc HB.out.size (.cells zs 192)) HB.out.size CS)
 generalize (w1.alloc (.cells zs 192)).setRow w1.heap.size CS = w2 at HC HB2 ⊢
 clear hz HZS F1 F2 F3 HB
 go_loop [4, 9] (fun x i => ∃ k : Nat, k ≤ s.size ∧ i = .int .i64 k ∧ x = .int .u32 (crcF 4294967295 (s.data.toList.take k) : Nat)) (fun _ i => s.size - (intOf i).toNat)
 case atStart => exact ⟨0, Nat.zero_le _, rfl, rfl⟩
 case round =>
   obtain ⟨k, hk, rfl, rfl⟩ := hrel
   have hX := crcF_lt (s.data.toList.take k) (x := 4294967295) (by omega)
   by_cases hlt : k < s.size
   · have HS := Lib.hid (show crcF 4294967295 (s.data.toList.take (k + 1)) = crcB (crcF 4294967295 (s.data.toList.take k)) s[k] by rw [take_snoc s k hlt, crcF_snoc])
     have hc := s[k].toNat_lt
     generalize crcF 4294967295 (s.data.toList.take k) = X at HS hX ⊢
     have HT := Lib.hid (table_turn X s[k] hX)
     have hp := table_place X s[k]
     have hl := table_lt X s[k]
     have hcell := HC.out _ hl
     generalize (X % 256) ^^^ s[k].toNat = Y at HT hp hl hcell
     unfold u32v at hcell
     obtain ⟨v, hv⟩ : ∃ v, ((stN 8 Y : Nat) : Int) = v := ⟨_, rfl⟩
     rw [hv] at hcell HT
     have HX := Lib.hid hX
     clear hX hv
     have i1 : (k : Int) < (s.size : Int) := by omega
     have i3 : (Y : Int) < 256 := by omega
     go_wp2
     go_round
     case rel => exact ⟨k + 1, by omega, by go_num, congrArg (Value.int IntKind.u32) (by rw [HT.out, HS.out])⟩
     case measure => simp [intOf]; omega
   · obtain rfl : k = s.size := by omega
     have e0 : s.data.toList.take s.size = s.data.toList := List.take_of_length_le (by simp)
     rw [e0] at hX ⊢
     have HT := Lib.hid (crc_end s.data.toList)
     clear e0 hX
     go_wp2
     go_ret
     exact ⟨ret_int HT.out, HB2.out⟩
def sealedB (l : List UInt8) : List UInt8 := l ++ fixB (crc l) 4
theorem sealed_len (l : List UInt8) : (sealedB l).length = l.length + 4 := by unfold sealedB; rw [List.length_append, fix_length]
theorem sealed_text (s : ByteArray) : s ++ ⟨(fixB (crc s.data.toList) 4).toArray⟩ = ⟨(sealedB s.data.toList).toArray⟩ := by
 apply bytes_ext
 unfold sealedB
 simp
theorem putFix_crc (l : List UInt8) : putFix (crc l : Nat) 4 = fixB (crc l) 4 := putFix_in (n := crc l) (b := 4) (by omega) (by omega)

def openedB (l : List UInt8) : Option (List UInt8) := if 4 ≤ l.length ∧ sealedB (l.take (l.length - 4)) = l then some (l.take (l.length - 4)) else none
def opened1 (l : List UInt8) : List UInt8 := (openedB l).getD []
def opened2 (l : List UInt8) : Bool := (openedB l).isSome

set_option maxHeartbeats 400000 in
theorem specSealed (s : ByteArray) (w : World) (hs : s.size ≤ 1000000000) :
   Calls Tryz.prog 101 #[.string s] w (TextIs w (sealedB s.data.toList)) := by
 have HC := Lib.hid (crc_lt s.data.toList)
 have HP := Lib.hid (putFix_crc s.data.toList)
 go_enter Tryz.func101, Tryz.ntmps101
 go_wp2_with fail
 refine (specCrc s _ (by unfold maxLen; omega)).mono ?_
 rintro e w1 ⟨rfl, rfl⟩
 go_wp2_with fail
 refine (specPutFix _ _ _ (by have := HC.out; omega) (by have := HC.out; omega)).mono ?_
 rw [HP.out]
 rintro e w1 ⟨rfl, hb⟩
 have HB := Lib.hid hb
 have hl := fix_length (crc s.data.toList) 4
 have ht := sealed_text s
 generalize hq : (⟨(fixB (crc s.data.toList) 4).toArray⟩ : ByteArray) = q at ht ⊢
 have hq4 : q.size = 4 := by rw [← hq]; simpa [ByteArray.size] using hl
 have HT := Lib.hid ht
 have h4 : q.size ≤ 4 := by omega
 clear hb hl ht hq hq4
 go_wp2
 go_ret
 exact ⟨congrArg (fun b => Ending.returned (.string b)) HT.out, HB.out⟩

set_option maxHeartbeats 400000 in
theorem implSealed (s : ByteArray) (w : World) (hs : s.size ≤ 1000000000) :
   Calls Tryz.prog 95 #[.string s] w (TextIs w (sealedB s.data.toList)) := by
 have HC := Lib.hid (crc_lt s.data.toList)
 have HP := Lib.hid (putFix_crc s.data.toList)
 go_enter Tryz.func95, Tryz.ntmps95
 go_wp2_with fail
 refine (implCrc s _ (by unfold maxLen; omega)).mono ?_
 rintro e w1 ⟨rfl, hb1⟩
 have HB1 := Lib.hid hb1
 clear hb1
 go_wp2_with fail
 refine (implPutFix _ _ _ (by have := HC.out; omega) (by have := HC.out; omega)).mono ?_
 rw [HP.out]
 rintro e w2 ⟨rfl, hb⟩
 have HB := Lib.hid (HB1.out.trans (hb.mono HB1.out.size))
 have hl := fix_length (crc s.data.toList) 4
 have ht := sealed_text s
 generalize hq : (⟨(fixB (crc s.data.toList) 4).toArray⟩ : ByteArray) = q at ht ⊢
 have hq4 : q.size = 4 := by rw [← hq]; simpa [ByteArray.size] using hl
 have HT := Lib.hid ht
 have h4 : q.size ≤ 4 := by omega
 clear hb hl ht hq hq4
 go_wp2
 go_ret
 exact ⟨congrArg (fun b => Ending.returned (.string b)) HT.out, HB.out⟩
def OpenOut (w : World) (l : List UInt8) (e : Ending) (w' : World) : Prop := e = .returned (.tuple #[.string ⟨(opened1 l).toArray⟩, .bool (opened2 l)]) ∧ Below w.heap.size w w'

theorem opened_no {l : List UInt8} (h : ¬ (4 ≤ l.length ∧ sealedB (l.take (l.length - 4)) = l)) : opened1 l = [] ∧ opened2 l = false := by
 unfold opened1 opened2 openedB; rw [if_neg h]; exact ⟨rfl, rfl⟩
theorem opened_yes {l : List UInt8} (h : 4 ≤ l.length ∧ sealedB (l.take (l.length - 4)) = l) : opened1 l = l.take (l.length - 4) ∧ opened2 l = true := by
 unfold opened1 opened2 openedB; rw [if_pos h]; exact ⟨rfl, rfl⟩
theorem ret_open {a b : ByteArray} {c d : Bool} (h1 : a = b) (h2 : c = d) : Ending.returned (.tuple #[.string a, .bool c]) = .returned (.tuple #[.string b, .bool d]) := by rw [h1, h2]
theorem head_list (s : ByteArray) (n : Nat) : (s.extract 0 n).data.toList = s.data.toList.take n := by
 simp [ByteArray.data_extract, Array.toList_extract, List.extract_eq_take_drop]
theorem head_is (s : ByteArray) (n : Nat) : s.extract 0 n = ⟨(s.data.toList.take n).toArray⟩ := by apply bytes_ext; rw [head_list]

set_option maxHeartbeats 400000 in
theorem specOpened (s : ByteArray) (w : World) (hs : s.size ≤ 1000000000) :
   Calls Tryz.prog 111 #[.string s] w (OpenOut w s.data.toList) := by
 have hl : s.data.toList.length = s.size := by simp
 by_cases h4 : s.size < 4
 · have HR := Lib.hid (opened_no (l := s.data.toList) (by rw [hl]; omega))
   clear hl
   go_enter Tryz.func111, Tryz.ntmps111
   go_wp2
   go_ret2
   exact ⟨ret_open (a := ⟨#[]⟩) (by rw [HR.out.1]) HR.out.2.symm, Below.refl _ _⟩
 · obtain ⟨n, hn⟩ : ∃ n, s.size = n + 4 := ⟨s.size - 4, by omega⟩
   have hn4 : s.size - 4 = n := by omega
   have hz : (s.extract 0 n).size ≤ 1000000000 := by rw [ByteArray.size_extract]; omega
   have hm1 : (s.size : Int) - 4 = (n : Int) := by omega
   have n1 : n ≤ s.size := by omega
   have HN := Lib.hid hn
   have hh := head_list s n
   have hi := head_is s n
   have HO := Lib.hid (And.intro (opened_no (l := s.data.toList)) (opened_yes (l := s.data.toList)))
   rw [hl, hn4] at HO
   have HH := Lib.hid hh
   have HI := Lib.hid hi
   clear hn hn4 hl h4 hh hi
   go_enter Tryz.func111, Tryz.ntmps111
   go_wp2_with fail
   refine (specSealed (s.extract 0 n) _ hz).mono ?_
   rw [HH.out]
   rintro e w1 ⟨rfl, hb1⟩
   have HB1 := Lib.hid hb1
   clear hb1
   go_wp2_with fail
   · have ht : (n : Int) < 0 ∨ (!sealedB (s.data.toList.take n) == s.toList) = true := by assumption
     have hw : ¬ sealedB (s.data.toList.take n) = s.data.toList := by
       rcases ht with ht | ht
       · omega
       · rw [ByteArray.toList_eq] at ht; simpa using ht
     have hr := HO.out.1 (fun h => hw h.2)
     go_ret2
     exact ⟨ret_open (a := ⟨#[]⟩) (by rw [hr.1]) hr.2.symm, HB1.out⟩
   · have ht : 0 ≤ (n : Int) ∧ (!sealedB (s.data.toList.take n) == s.toList) = false := by assumption
     have hw : sealedB (s.data.toList.take n) = s.data.toList := by
       have ht := ht.2
       rw [ByteArray.toList_eq] at ht; simpa using ht
     have hr := HO.out.2 ⟨by have := HN.out; omega, hw⟩
     go_ret2
     exact ⟨ret_open (by rw [hr.1]; exact HI.out) hr.2.symm, HB1.out⟩

set_option maxHeartbeats 400000 in
theorem implOpened (s : ByteArray) (w : World) (hs : s.size ≤ 1000000000) :
   Calls Tryz.prog 159 #[.string s] w (OpenOut w s.data.toList) := by
 have hl : s.data.toList.length = s.size := by simp
 by_cases h4 : s.size < 4
 · have HR := Lib.hid (opened_no (l := s.data.toList) (by rw [hl]; omega))
   clear hl
   go_enter Tryz.func159, Tryz.ntmps159
   go_wp2_with fail
   refine (take_no _ s 0 _ _ (rd_new w s 0) (by unfold maxLen; omega) (by omega)).mono ?_
   rintro e w1 ⟨rfl, m, rfl⟩
   go_wp2
   go_ret2
   exact ⟨ret_open (a := ⟨#[]⟩) (by rw [HR.out.1]) HR.out.2.symm, ((Below.refl _ _).alloc (Nat.le_refl _) _).trans (below_draws _)⟩
 · obtain ⟨n, hn⟩ : ∃ n, s.size = n + 4 := ⟨s.size - 4, by omega⟩
   have hn4 : s.size - 4 = n := by omega
   have hz : (s.extract 0 n).size ≤ 1000000000 := by rw [ByteArray.size_extract]; omega
   have hm1 : (s.size : Int) - 4 = (n : Int) := by omega
   have n1 : n ≤ s.size := by omega
   have HN := Lib.hid hn
   have hh := head_list s n
   have hi := head_is s n
   have HO := Lib.hid (And.intro (opened_no (l := s.data.toList)) (opened_yes (l := s.data.toList)))
   rw [hl, hn4] at HO
   have HH := Lib.hid hh
   have HI := Lib.hid hi
   clear hn hn4 hl h4 hh hi
   go_enter Tryz.func159, Tryz.ntmps159
   go_wp2_with fail
   refine (take_yes _ s 0 n _ (rd_new w s 0) (by unfold maxLen; omega) (by omega)).mono ?_
   unfold Taken
   rw [Nat.zero_add]
   rintro e w1 ⟨rfl, hr, hg⟩
   have HG := Lib.hid (below_new (World.grownBy_alloc w _ none) hg)
   clear hr hg
   go_wp2_with fail
   refine (implSealed (s.extract 0 n) _ hz).mono ?_
   rw [HH.out]
   rintro e w2 ⟨rfl, hb1⟩
   have HB1 := Lib.hid (HG.out.trans (hb1.mono HG.out.size))
   clear hb1
   go_wp2_with fail
   · have ht : (!sealedB (s.data.toList.take n) == s.toList) = true := by assumption
     have hw : ¬ sealedB (s.data.toList.take n) = s.data.toList := by rw [ByteArray.toList_eq] at ht; simpa using ht
     have hr := HO.out.1 (fun h => hw h.2)
     go_ret2
     exact ⟨ret_open (a := ⟨#[]⟩) (by rw [hr.1]) hr.2.symm, HB1.out⟩
   · have ht : (!sealedB (s.data.toList.take n) == s.toList) = false := by assumption
     have hw : sealedB (s.data.toList.take n) = s.data.toList := by rw [ByteArray.toList_eq] at ht; simpa using ht
     have hr := HO.out.2 ⟨by have := HN.out; omega, hw⟩
     go_ret2
     exact ⟨ret_open (by rw [hr.1]; exact HI.out) hr.2.symm, HB1.out⟩
theorem bent_byte (i : Nat) : ∀ (l : List UInt8) (c : UInt8), i < l.length → Bent (2 ^ (8 * i) * ((l.getD i 0).toNat ^^^ c.toNat)) l (l.set i c) := by
 induction i with
 | zero =>
   intro l c hi
   cases l with
   | nil => simp at hi
   | cons a l =>
     have h1 : a.toNat ^^^ c.toNat < 2 ^ 8 := Nat.xor_lt_two_pow a.toNat_lt c.toNat_lt
     simp only [List.getD_cons_zero, List.set_cons_zero, Nat.mul_zero, Nat.pow_zero, Nat.one_mul]
     refine ⟨?_, ?_⟩
     · rw [Nat.mod_eq_of_lt h1, ← Nat.xor_assoc, Nat.xor_self, Nat.zero_xor]
     · rw [Nat.div_eq_of_lt h1]; exact bent_zero l
 | succ i ih =>
   intro l c hi
   cases l with
   | nil => simp at hi
   | cons a l =>
     have := ih l c (by simpa using hi)
     simp only [List.getD_cons_succ, List.set_cons_succ]
     have ep : 2 ^ (8 * (i + 1)) * ((l.getD i 0).toNat ^^^ c.toNat) = 256 * (2 ^ (8 * i) * ((l.getD i 0).toNat ^^^ c.toNat)) := by
       rw [show 8 * (i + 1) = 8 + 8 * i by omega, Nat.pow_add, Nat.mul_assoc]
     rw [ep]
     generalize 2 ^ (8 * i) * ((l.getD i 0).toNat ^^^ c.toNat) = E at this
     refine ⟨?_, ?_⟩
     · have : 256 * E % 256 = 0 := by omega
       rw [this, Nat.xor_zero]
     · have e : 256 * E / 256 = E := by omega
       rw [e]; exact this

theorem crc_byte (l : List UInt8) (i : Nat) (c : UInt8) (hi : i < l.length) (hc : (l.getD i 0) ≠ c) : crc (l.set i c) ≠ crc l := by
 have h1 : (l.getD i 0).toNat ^^^ c.toNat < 2 ^ 8 := Nat.xor_lt_two_pow (l.getD i 0).toNat_lt c.toNat_lt
 have h0 : (l.getD i 0).toNat ^^^ c.toNat ≠ 0 := fun h => hc (UInt8.toNat_inj.1 (xor_eq_zero h))
 refine bent_told l (l.set i c) (8 * i) _ (bent_byte i l c hi) (by omega) ?_ (by omega)
 have hp : 2 ^ 8 ≤ 2 ^ (8 * l.length - 8 * i) := Nat.pow_le_pow_right (by omega) (by omega)
 rw [Nat.mod_eq_of_lt (by omega)]
 exact h0

theorem opened_sealed (l : List UInt8) : opened1 (sealedB l) = l ∧ opened2 (sealedB l) = true := by
 have hl := sealed_len l
 have ht : (sealedB l).take ((sealedB l).length - 4) = l := by
   rw [hl, Nat.add_sub_cancel]
   unfold sealedB
   exact List.take_left' rfl
 have := opened_yes (l := sealedB l) ⟨by omega, by rw [ht]⟩
 rw [ht] at this
 exact this

theorem opened_back {l : List UInt8} (h : opened2 l = true) : sealedB (opened1 l) = l := by
 by_cases hc : 4 ≤ l.length ∧ sealedB (l.take (l.length - 4)) = l
 · rw [(opened_yes hc).1]; exact hc.2
 · rw [(opened_no hc).2] at h; cases h

theorem opened_changed (l : List UInt8) (n : Nat) (c : UInt8) (hn : n < (sealedB l).length) (hc : (sealedB l).getD n 0 ≠ c) : opened2 ((sealedB l).set n c) = false := by
 refine (opened_no ?_).2
 rintro ⟨_, h⟩
 rw [List.length_set, sealed_len, Nat.add_sub_cancel, List.take_set] at h
 have ht : (sealedB l).take l.length = l := by unfold sealedB; exact List.take_left' rfl
 rw [ht] at h
 rw [sealed_len] at hn
 by_cases hlt : n < l.length
 · have hg : (sealedB l).getD n 0 = l.getD n 0 := by
     unfold sealedB
     rw [List.getD_eq_getElem?_getD, List.getD_eq_getElem?_getD, List.getElem?_append_left hlt]
   rw [hg] at hc
   have hcr := crc_byte l n c hlt hc
   have e : (sealedB l).set n c = l.set n c ++ fixB (crc l) 4 := by
     unfold sealedB
     rw [List.set_append_left _ _ hlt]
   rw [e] at h
   unfold sealedB at h
   have h2 := List.append_cancel_left h
   have h3 := fix_inj h2
   have c1 := crc_lt (l.set n c)
   have c2 := crc_lt l
   rw [Nat.mod_eq_of_lt (by omega), Nat.mod_eq_of_lt (by omega)] at h3
   exact hcr h3
 · rw [List.set_eq_of_length_le (by omega)] at h
   have h4 : (sealedB l).getD n 0 = ((sealedB l).set n c).getD n 0 := by rw [← h]
   have h5 : ((sealedB l).set n c).getD n 0 = c := by
     rw [List.getD_eq_getElem?_getD, List.getElem?_set_self (by rw [sealed_len]; omega)]; rfl
   exact hc (h4.trans h5)
def wrapB (l : List UInt8) (pack : Bool) : List UInt8 :=
 if 2000 < l.length then [] else if pack = true ∧ (compress l).length < l.length then sealedB (compress l ++ [1]) else sealedB (l ++ [0])
def markOf (x : List UInt8) : Nat := (x.getD (x.length - 1) 0).toNat
def bodyOf (x : List UInt8) : List UInt8 := x.take (x.length - 1)
def textOf (x : List UInt8) : List UInt8 := if markOf x = 1 then expand1 (bodyOf x) else bodyOf x
def unwrapB (l : List UInt8) : List UInt8 × Nat :=
 if l.length < 5 then ([], 1) else if opened2 l = false then ([], 2) else if 1 < markOf (opened1 l) then ([], 3)
 else if wrapB (textOf (opened1 l)) (decide (markOf (opened1 l) = 1)) = l then (textOf (opened1 l), 0) else ([], 4)

theorem wrap_long {l : List UInt8} (p : Bool) (h : 2000 < l.length) : wrapB l p = [] := by unfold wrapB; rw [if_pos h]
theorem wrap_packed {l : List UInt8} (h : l.length ≤ 2000) (hc : (compress l).length < l.length) : wrapB l true = sealedB (compress l ++ [1]) := by
 unfold wrapB
 rw [if_neg (by omega), if_pos ⟨rfl, hc⟩]
theorem wrap_plain {l : List UInt8} {p : Bool} (h : l.length ≤ 2000) (hc : p = true → l.length ≤ (compress l).length) : wrapB l p = sealedB (l ++ [0]) := by
 unfold wrapB
 rw [if_neg (by omega), if_neg (fun ⟨h1, h2⟩ => by have := hc h1; omega)]
theorem mark_last (a : List UInt8) (c : UInt8) : markOf (a ++ [c]) = c.toNat := by
 unfold markOf
 simp [List.getD_eq_getElem?_getD]
theorem body_last (a : List UInt8) (c : UInt8) : bodyOf (a ++ [c]) = a := by
 unfold bodyOf
 simp
theorem wrapB_len {l : List UInt8} (p : Bool) (h : l.length ≤ 2000) : (wrapB l p).length ≤ l.length + 5 ∧ 5 ≤ (wrapB l p).length := by
 unfold wrapB
 rw [if_neg (by omega)]
 split
 · next hc => rw [sealed_len, List.length_append]; simp only [List.length_cons, List.length_nil]; omega
 · rw [sealed_len, List.length_append]; simp only [List.length_cons, List.length_nil]; omega
theorem wrap_most (l : List UInt8) (p : Bool) : (wrapB l p).length ≤ 2005 := by
 by_cases h : l.length ≤ 2000
 · have := (wrapB_len p h).1; omega
 · rw [wrap_long p (by omega)]; simp
theorem wrap_false {l : List UInt8} (h : l.length ≤ 2000) : (wrapB l false).length = l.length + 5 := by
 rw [wrap_plain h (fun h => by cases h), sealed_len, List.length_append]
 simp
theorem wrap_seal {l : List UInt8} (p : Bool) (h : l.length ≤ 2000) : ∃ x, wrapB l p = sealedB x := by
 unfold wrapB
 rw [if_neg (by omega)]
 split
 · exact ⟨_, rfl⟩
 · exact ⟨_, rfl⟩
theorem unwrap_short {l : List UInt8} (h : l.length < 5) : unwrapB l = ([], 1) := by unfold unwrapB; rw [if_pos h]
theorem unwrap_crc {l : List UInt8} (h : 5 ≤ l.length) (ho : opened2 l = false) : unwrapB l = ([], 2) := by unfold unwrapB; rw [if_neg (by omega), if_pos ho]
theorem unwrap_tag {l : List UInt8} (h : 5 ≤ l.length) (ho : opened2 l = true) (hm : 1 < markOf (opened1 l)) : unwrapB l = ([], 3) := by
 unfold unwrapB
 rw [if_neg (by omega), if_neg (by simp [ho]), if_pos hm]
theorem unwrap_yes {l : List UInt8} (h : 5 ≤ l.length) (ho : opened2 l = true) (hm : markOf (opened1 l) ≤ 1) (hw : wrapB (textOf (opened1 l)) (decide (markOf (opened1 l) = 1)) = l) : unwrapB l = (textOf (opened1 l), 0) := by
 unfold unwrapB
 rw [if_neg (by omega), if_neg (by simp [ho]), if_neg (by omega), if_pos hw]
theorem unwrap_no {l : List UInt8} (h : 5 ≤ l.length) (ho : opened2 l = true) (hm : markOf (opened1 l) ≤ 1) (hw : wrapB (textOf (opened1 l)) (decide (markOf (opened1 l) = 1)) ≠ l) : unwrapB l = ([], 4) := by
 unfold unwrapB
 rw [if_neg (by omega), if_neg (by simp [ho]), if_neg (by omega), if_neg hw]
theorem unwrap_wrap {l : List UInt8} (p : Bool) (h : l.length ≤ 2000) : unwrapB (wrapB l p) = (l, 0) := by
 by_cases hc : p = true ∧ (compress l).length < l.length
 · obtain ⟨rfl, hc⟩ := hc
   have e := wrap_packed h hc
   obtain ⟨o1, o2⟩ := opened_sealed (compress l ++ [1])
   have hm := mark_last (compress l) 1
   have ht : textOf (compress l ++ [1]) = l := by
     unfold textOf
     rw [hm, if_pos (show UInt8.toNat 1 = 1 from rfl), body_last, (expand_compress l h).1]
   have hl := (wrapB_len true h).2
   rw [e] at hl ⊢
   have := unwrap_yes hl o2 (by rw [o1, hm]; decide) (by rw [o1, hm, ht]; exact e)
   rw [this, o1, ht]
 · have e : wrapB l p = sealedB (l ++ [0]) := wrap_plain h (fun hp => by
     have : ¬ (compress l).length < l.length := fun h2 => hc ⟨hp, h2⟩
     omega)
   obtain ⟨o1, o2⟩ := opened_sealed (l ++ [0])
   have hm := mark_last l 0
   have ht : textOf (l ++ [0]) = l := by
     unfold textOf
     rw [hm, if_neg (by decide), body_last]
   have hl := (wrapB_len p h).2
   rw [e] at hl ⊢
   have e2 : wrapB l false = sealedB (l ++ [0]) := wrap_plain h (fun h => by cases h)
   have := unwrap_yes hl o2 (by rw [o1, hm]; decide) (by rw [o1, hm, ht]; exact e2)
   rw [this, o1, ht]
theorem opened_parts {l : List UInt8} (h : 5 ≤ l.length) (ho : opened2 l = true) : opened1 l = bodyOf (opened1 l) ++ [UInt8.ofNat (markOf (opened1 l))] ∧ (opened1 l).length = l.length - 4 := by
 have hb := opened_back ho
 have hl := sealed_len (opened1 l)
 rw [hb] at hl
 refine ⟨?_, by omega⟩
 unfold bodyOf markOf
 have hlt : (opened1 l).length - 1 < (opened1 l).length := by omega
 conv => lhs; rw [← List.take_append_drop ((opened1 l).length - 1) (opened1 l)]
 rw [List.drop_eq_getElem_cons hlt, List.drop_eq_nil_of_le (by omega)]
 simp [List.getD_eq_getElem?_getD, hlt]
theorem unwrap_not {l : List UInt8} (h : 5 ≤ l.length) (ho : opened2 l = true) (hm : markOf (opened1 l) = 1) (hx : expand2 (bodyOf (opened1 l)) = false) : unwrapB l = ([], 4) := by
 refine unwrap_no h ho (by omega) ?_
 have ht : textOf (opened1 l) = [] := by
   unfold textOf
   rw [if_pos hm, expand_no _ hx]
 rw [ht, wrap_plain (by simp) (fun _ => by simp)]
 intro e
 have e2 := (opened_sealed ([] ++ [0])).1
 rw [e] at e2
 rw [e2, mark_last] at hm
 exact absurd hm (by decide)
theorem unwrap_some {l : List UInt8} (h : (unwrapB l).2 = 0) : ∃ p, wrapB (unwrapB l).1 p = l := by
 unfold unwrapB at h ⊢
 split at h
 · cases h
 · next h1 =>
   split at h
   · cases h
   · next h2 =>
     split at h
     · cases h
     · next h3 =>
       split at h
       · next h4 =>
         rw [if_neg h1, if_neg h2, if_neg h3, if_pos h4]
         exact ⟨_, h4⟩
       · cases h
theorem unwrap_none {l : List UInt8} (h : (unwrapB l).2 ≠ 0) : (unwrapB l).1 = [] := by
 unfold unwrapB at h ⊢
 split
 · rfl
 · split
   · rfl
   · split
     · rfl
     · split
       · next h1 h2 h3 h4 => rw [if_neg h1, if_neg h2, if_neg h3, if_pos h4] at h; exact absurd rfl h
       · rfl
theorem unwrap_most (l : List UInt8) : (unwrapB l).1.length ≤ 2000 ∧ (unwrapB l).2 ≤ 4 := by
 by_cases h : (unwrapB l).2 = 0
 · obtain ⟨p, hp⟩ := unwrap_some h
   refine ⟨?_, by omega⟩
   by_cases hl : (unwrapB l).1.length ≤ 2000
   · exact hl
   · rw [wrap_long p (by omega)] at hp
     rw [← hp] at h
     exact absurd h (by decide)
 · rw [unwrap_none h]
   refine ⟨by simp, ?_⟩
   unfold unwrapB
   split
   · decide
   · split
     · decide
     · split
       · decide
       · split <;> simp
theorem unwrap_changed {l : List UInt8} (p : Bool) (h : l.length ≤ 2000) (n : Nat) (c : UInt8) (hn : n < (wrapB l p).length) (hc : (wrapB l p).getD n 0 ≠ c) : unwrapB ((wrapB l p).set n c) = ([], 2) := by
 have hl := (wrapB_len p h).2
 obtain ⟨x, hx⟩ := wrap_seal p h
 rw [hx] at hn hc hl ⊢
 exact unwrap_crc (by rw [List.length_set]; exact hl) (opened_changed x n c hn hc)
structure Conf where
 every : Int
 size : Int
 pack : Bool
def confOk (c : Conf) : Bool := decide (1 ≤ c.every) && decide (c.every ≤ 16) && decide (1 ≤ c.size) && decide (c.size ≤ 50)
theorem conf_in {c : Conf} (h : confOk c = true) : 1 ≤ c.every ∧ c.every ≤ 16 ∧ 1 ≤ c.size ∧ c.size ≤ 50 := by
 unfold confOk at h
 simp only [Bool.and_eq_true, decide_eq_true_eq] at h
 exact ⟨h.1.1.1, h.1.1.2, h.1.2, h.2⟩
def partAt (n j : Nat) (xs : List Cel) : List Cel := (xs.drop (j * n)).take n
def blkAt (xs : List Cel) (c : Conf) (j : Nat) : List UInt8 := wrapB (putBlock (partAt c.size.toNat j xs) c.every) c.pack
def outTo (xs : List Cel) (c : Conf) : Nat → List UInt8
 | 0 => []
 | k + 1 => outTo xs c k ++ blkAt xs c k
def idxAt (xs : List Cel) (c : Conf) (j : Nat) : List UInt8 :=
 varB (lastOf [] (partAt c.size.toNat j xs)).length ++ (lastOf [] (partAt c.size.toNat j xs) ++ (varB (outTo xs c j).length ++ varB (blkAt xs c j).length))
def idxTo (xs : List Cel) (c : Conf) : Nat → List UInt8
 | 0 => []
 | k + 1 => idxTo xs c k ++ idxAt xs c k
def nBlk (xs : List Cel) (c : Conf) : Nat := (xs.length + c.size.toNat - 1) / c.size.toNat
def nameKey (x : Cel) : List UInt8 := x.row.data.toList ++ 0 :: x.col.data.toList
def topB (xs : List Cel) (c : Conf) : List UInt8 := wrapB (idxTo xs c (nBlk xs c)) c.pack
def filB (xs : List Cel) : List UInt8 := wrapB (filterB (xs.map nameKey)) false
def flag (p : Bool) : Nat := if p then 1 else 0
def footB (a b f n : Nat) (c : Conf) : List UInt8 := fixB a 4 ++ (fixB b 4 ++ (fixB (a + b) 4 ++ (fixB f 4 ++ (fixB n 4 ++ (fixB c.every.toNat 4 ++ (fixB c.size.toNat 4 ++ fixB (flag c.pack) 4))))))
def magicB : List UInt8 := [83, 72, 69, 76, 70, 49]
def outB (xs : List Cel) (c : Conf) : List UInt8 := outTo xs c (nBlk xs c)
def tableB (xs : List Cel) (c : Conf) : List UInt8 := outB xs c ++ (topB xs c ++ (filB xs ++ (footB (outB xs c).length (topB xs c).length (filB xs).length xs.length c ++ magicB)))
def tabOk (xs : List Cel) (c : Conf) : Prop := xs.length ≤ 60 ∧ cellsOk xs = true ∧ confOk c = true ∧ (∀ j, j < nBlk xs c → blkAt xs c j ≠ []) ∧ topB xs c ≠ []
instance (xs : List Cel) (c : Conf) : Decidable (tabOk xs c) := by unfold tabOk; infer_instance
def putTable (xs : List Cel) (c : Conf) : List UInt8 := if tabOk xs c then tableB xs c else []

theorem foot_len (a b f n : Nat) (c : Conf) : (footB a b f n c).length = 32 := by unfold footB; simp [fix_length]
theorem table_len (xs : List Cel) (c : Conf) : (tableB xs c).length = (outB xs c).length + (topB xs c).length + (filB xs).length + 38 := by
 unfold tableB
 simp only [List.length_append, foot_len]
 simp [magicB]
 omega
theorem part_len {xs : List Cel} {n j : Nat} (h : j * n < xs.length) (hn : 1 ≤ n) : 1 ≤ (partAt n j xs).length ∧ (partAt n j xs).length ≤ n := by
 unfold partAt
 rw [List.length_take, List.length_drop]
 omega
theorem blk_in {xs : List Cel} {c : Conf} (hc : confOk c = true) {j : Nat} (h : j < nBlk xs c) : j * c.size.toNat < xs.length := by
 have := conf_in hc
 unfold nBlk at h
 have h1 : 1 ≤ c.size.toNat := by omega
 have h2 := Nat.div_mul_le_self (xs.length + c.size.toNat - 1) c.size.toNat
 have h3 : (j + 1) * c.size.toNat ≤ (xs.length + c.size.toNat - 1) / c.size.toNat * c.size.toNat := Nat.mul_le_mul_right _ h
 rw [Nat.succ_mul] at h3
 omega
theorem cells_part {xs : List Cel} (h : cellsOk xs = true) (n j : Nat) : cellsOk (partAt n j xs) = true := by
 obtain ⟨h1, h2⟩ := (cellsOk_iff xs).1 h
 refine (cellsOk_iff _).2 ⟨fun x hx => h1 x (List.mem_of_mem_drop (List.mem_of_mem_take hx)), ?_⟩
 unfold partAt
 exact (h2.sublist (List.drop_sublist _ _)).sublist (List.take_sublist _ _)
theorem out_le (xs : List Cel) (c : Conf) (k : Nat) : (outTo xs c k).length ≤ 2005 * k := by
 induction k with
 | zero => simp [outTo]
 | succ k ih =>
   rw [outTo, List.length_append]
   have := wrap_most (putBlock (partAt c.size.toNat k xs) c.every) c.pack
   unfold blkAt
   omega
theorem nblk_le {xs : List Cel} {c : Conf} (hc : confOk c = true) : nBlk xs c ≤ xs.length := by
 by_cases h : nBlk xs c = 0
 · omega
 · have := blk_in (xs := xs) hc (j := nBlk xs c - 1) (by omega)
   have h1 := conf_in hc
   have h2 : (nBlk xs c - 1) * 1 ≤ (nBlk xs c - 1) * c.size.toNat := Nat.mul_le_mul_left _ (by omega)
   omega

theorem wrap_some {l : List UInt8} {p : Bool} (h : wrapB l p ≠ []) : l.length ≤ 2000 := by
 by_cases hl : l.length ≤ 2000
 · exact hl
 · exact absurd (wrap_long p (by omega)) h
theorem wrap_inj {a b : List UInt8} {p : Bool} (h : wrapB a p = wrapB b p) (hne : wrapB a p ≠ []) : a = b := by
 have h1 := unwrap_wrap p (wrap_some hne)
 rw [h] at hne
 have h2 := unwrap_wrap p (wrap_some hne)
 rw [h, h2] at h1
 exact (Prod.mk.inj h1).1.symm
theorem idx_flat (xs : List Cel) (c : Conf) (k : Nat) : idxTo xs c k = (List.range k).flatMap (idxAt xs c) := by
 induction k with
 | zero => rfl
 | succ k ih => rw [idxTo, ih, List.range_succ, List.flatMap_append]; simp
theorem idx_told {xs ys : List Cel} {c : Conf} : ∀ (js : List Nat) {r r' : List UInt8}, js.flatMap (idxAt xs c) ++ r = js.flatMap (idxAt ys c) ++ r' → (∀ j ∈ js, (blkAt xs c j).length = (blkAt ys c j).length) ∧ r = r'
 | [], r, r', h => ⟨fun j hj => by simp at hj, by simpa using h⟩
 | j :: js, r, r', h => by
   rw [List.flatMap_cons, List.flatMap_cons] at h
   unfold idxAt at h
   simp only [List.append_assoc] at h
   obtain ⟨e1, h⟩ := var_first h
   obtain ⟨_, h⟩ := List.append_inj h e1
   obtain ⟨_, h⟩ := var_first h
   obtain ⟨e2, h⟩ := var_first h
   obtain ⟨h1, h2⟩ := idx_told js h
   exact ⟨fun i hi => by rcases List.mem_cons.1 hi with rfl | hi; exact e2; exact h1 i hi, h2⟩
theorem out_told {xs ys : List Cel} {c : Conf} : ∀ (k : Nat), (∀ j, j < k → (blkAt xs c j).length = (blkAt ys c j).length) → outTo xs c k = outTo ys c k → ∀ j, j < k → blkAt xs c j = blkAt ys c j
 | 0, _, _, j, hj => absurd hj (by omega)
 | k + 1, hl, h, j, hj => by
   rw [outTo, outTo] at h
   obtain ⟨h1, h2⟩ := List.append_inj' h (hl k (by omega))
   by_cases e : j = k
   · subst e; exact h2
   · exact out_told k (fun i hi => hl i (by omega)) h1 j (by omega)
theorem take_told {xs ys : List Cel} {n : Nat} : ∀ (k : Nat), (∀ j, j < k → partAt n j xs = partAt n j ys) → xs.take (k * n) = ys.take (k * n)
 | 0, _ => by simp
 | k + 1, h => by
   rw [Nat.succ_mul, List.take_add, List.take_add, take_told k (fun j hj => h j (by omega))]
   have := h k (by omega)
   unfold partAt at this
   rw [this]
theorem nblk_all {xs : List Cel} {c : Conf} (hc : confOk c = true) : xs.length ≤ nBlk xs c * c.size.toNat := by
 have := conf_in hc
 unfold nBlk
 have h1 : 1 ≤ c.size.toNat := by omega
 have h2 := Nat.lt_div_mul_add (a := xs.length + c.size.toNat - 1) (b := c.size.toNat) (by omega)
 omega
theorem part_block {xs : List Cel} {c : Conf} (hok : cellsOk xs = true) (hc : confOk c = true) {j : Nat} (hj : j < nBlk xs c) : putBlock (partAt c.size.toNat j xs) c.every ≠ [] := by
 have h := conf_in hc
 have h1 := (part_len (n := c.size.toNat) (blk_in hc hj) (by omega)).2
 obtain ⟨e, he⟩ := Int.eq_ofNat_of_zero_le (show 0 ≤ c.every by omega)
 rw [he, putBlock_yes (by omega) (cells_part hok _ _) (by omega) (by omega)]
 exact block_ne _ _
theorem cells_told {xs ys : List Cel} {c : Conf} (hx : tabOk xs c) (hy : tabOk ys c) (hl : xs.length = ys.length) (ho : outB xs c = outB ys c) (ht : topB xs c = topB ys c) : xs = ys := by
 have hn : nBlk ys c = nBlk xs c := by unfold nBlk; rw [hl]
 have hi : idxTo xs c (nBlk xs c) = idxTo ys c (nBlk xs c) := by
   unfold topB at ht
   have h2 := hx.2.2.2.2
   unfold topB at h2
   rw [hn] at ht
   exact wrap_inj ht h2
 rw [idx_flat, idx_flat] at hi
 have h3 := (idx_told (xs := xs) (ys := ys) (c := c) (List.range (nBlk xs c)) (r := []) (r' := []) (by rw [hi])).1
 unfold outB at ho
 rw [hn] at ho
 have h4 := out_told (nBlk xs c) (fun j hj => h3 j (List.mem_range.2 hj)) ho
 have h5 : ∀ j, j < nBlk xs c → partAt c.size.toNat j xs = partAt c.size.toNat j ys := fun j hj => by
   have h6 := wrap_inj (h4 j hj) (hx.2.2.2.1 j hj)
   exact putBlock_told h6 (part_block hx.2.1 hx.2.2.1 hj)
 have h6 := take_told (nBlk xs c) h5
 have h7 := nblk_all (xs := xs) hx.2.2.1
 rw [List.take_of_length_le h7, List.take_of_length_le (by omega)] at h6
 exact h6
theorem foot_told {a b f n a' b' f' n' : Nat} {c c' : Conf} (h : footB a b f n c = footB a' b' f' n' c') (ha : a < 4294967296) (ha' : a' < 4294967296) (hb : b < 4294967296) (hb' : b' < 4294967296) (hf : f < 4294967296) (hf' : f' < 4294967296) (hn : n < 4294967296) (hn' : n' < 4294967296) (hc : confOk c = true) (hc' : confOk c' = true) :
   a = a' ∧ b = b' ∧ f = f' ∧ n = n' ∧ c = c' := by
 have i1 := conf_in hc
 have i2 := conf_in hc'
 unfold footB at h
 have L : ∀ x, (fixB x 4).length = 4 := fun x => fix_length x 4
 obtain ⟨h1, h⟩ := List.append_inj h (by rw [L, L])
 obtain ⟨h2, h⟩ := List.append_inj h (by rw [L, L])
 obtain ⟨_, h⟩ := List.append_inj h (by rw [L, L])
 obtain ⟨h3, h⟩ := List.append_inj h (by rw [L, L])
 obtain ⟨h4, h⟩ := List.append_inj h (by rw [L, L])
 obtain ⟨h5, h⟩ := List.append_inj h (by rw [L, L])
 obtain ⟨h6, h7⟩ := List.append_inj h (by rw [L, L])
 have F : ∀ {x y : Nat}, fixB x 4 = fixB y 4 → x < 4294967296 → y < 4294967296 → x = y := fun {x y} e hx hy => by
   have := fix_inj e
   rw [Nat.mod_eq_of_lt (by omega), Nat.mod_eq_of_lt (by omega)] at this
   exact this
 have g1 := F h1 ha ha'
 have g2 := F h2 hb hb'
 have g3 := F h3 hf hf'
 have g4 := F h4 hn hn'
 have g5 := F h5 (by omega) (by omega)
 have g6 := F h6 (by omega) (by omega)
 have g7 := F h7 (by unfold flag; split <;> omega) (by unfold flag; split <;> omega)
 refine ⟨g1, g2, g3, g4, ?_⟩
 obtain ⟨e, s, p⟩ := c
 obtain ⟨e', s', p'⟩ := c'
 simp only at g5 g6 g7 i1 i2
 have k1 : e = e' := by omega
 have k2 : s = s' := by omega
 have k3 : p = p' := by cases p <;> cases p' <;> simp [flag] at g7 <;> rfl
 rw [k1, k2, k3]
theorem tab_bounds {xs : List Cel} {c : Conf} (h : tabOk xs c) : (outB xs c).length ≤ 120300 ∧ (topB xs c).length ≤ 2005 ∧ (filB xs).length ≤ 2005 ∧ 5 ≤ (filB xs).length := by
 have h1 := nblk_le (xs := xs) h.2.2.1
 have h2 := out_le xs c (nBlk xs c)
 have h3 := h.1
 have hf : (filterB (xs.map nameKey)).length ≤ 250 := by
   rw [filter_len (by rw [List.length_map]; omega)]
   exact fsize_le (by rw [List.length_map]; omega)
 refine ⟨by unfold outB; omega, wrap_most _ _, wrap_most _ _, ?_⟩
 unfold filB
 rw [wrap_false (by omega)]
 omega
theorem table_told {xs ys : List Cel} {c d : Conf} (hx : tabOk xs c) (hy : tabOk ys d) (h : tableB xs c = tableB ys d) : xs = ys ∧ c = d := by
 obtain ⟨x1, x2, x3, _⟩ := tab_bounds hx
 obtain ⟨y1, y2, y3, _⟩ := tab_bounds hy
 have x4 := hx.1
 have y4 := hy.1
 have h0 := h
 unfold tableB at h
 have e : ∀ (zs : List Cel) (d : Conf), outB zs d ++ (topB zs d ++ (filB zs ++ (footB (outB zs d).length (topB zs d).length (filB zs).length zs.length d ++ magicB))) = (outB zs d ++ (topB zs d ++ filB zs)) ++ (footB (outB zs d).length (topB zs d).length (filB zs).length zs.length d ++ magicB) := fun zs d => by simp
 rw [e, e] at h
 obtain ⟨h1, h2⟩ := List.append_inj' h (by rw [List.length_append, List.length_append, foot_len, foot_len])
 obtain ⟨h3, _⟩ := List.append_inj h2 (by rw [foot_len, foot_len])
 obtain ⟨g1, g2, g3, g4, rfl⟩ := foot_told h3 (by omega) (by omega) (by omega) (by omega) (by omega) (by omega) (by omega) (by omega) hx.2.2.1 hy.2.2.1
 obtain ⟨k1, k2⟩ := List.append_inj h1 g1
 obtain ⟨k3, _⟩ := List.append_inj k2 g2
 exact ⟨cells_told hx hy g4 k1 k3, rfl⟩
def endsRight (l : List UInt8) : Prop := 38 ≤ l.length ∧ l.drop (l.length - 6) = magicB
instance (l : List UInt8) : Decidable (endsRight l) := by unfold endsRight; infer_instance
def zeroConf : Conf := ⟨0, 0, false⟩
def Tab (l : List UInt8) (xs : List Cel) (c : Conf) (k : Nat) : Prop :=
 (k = 0 ∧ tabOk xs c ∧ tableB xs c = l) ∨ (xs = [] ∧ c = zeroConf ∧ k = (if endsRight l then 2 else 1) ∧ ∀ ys d, tabOk ys d → tableB ys d ≠ l)
theorem tab_some (l : List UInt8) : ∃ xs c k, Tab l xs c k := by
 by_cases h : ∃ ys d, tabOk ys d ∧ tableB ys d = l
 · obtain ⟨ys, d, h1, h2⟩ := h
   exact ⟨ys, d, 0, .inl ⟨rfl, h1, h2⟩⟩
 · exact ⟨[], zeroConf, _, .inr ⟨rfl, rfl, rfl, fun ys d h1 h2 => h ⟨ys, d, h1, h2⟩⟩⟩
theorem tab_one {l : List UInt8} {xs ys : List Cel} {c d : Conf} {k m : Nat} (h : Tab l xs c k) (h' : Tab l ys d m) : xs = ys ∧ c = d ∧ k = m := by
 rcases h with ⟨rfl, h1, h2⟩ | ⟨rfl, rfl, rfl, h2⟩
 · rcases h' with ⟨rfl, g1, g2⟩ | ⟨_, _, _, g2⟩
   · obtain ⟨e1, e2⟩ := table_told h1 g1 (by rw [h2, g2])
     exact ⟨e1, e2, rfl⟩
   · exact absurd h2 (g2 _ _ h1)
 · rcases h' with ⟨rfl, g1, g2⟩ | ⟨rfl, rfl, rfl, _⟩
   · exact absurd g2 (h2 _ _ g1)
   · exact ⟨rfl, rfl, rfl⟩
theorem tab_few {l : List UInt8} {xs : List Cel} {c : Conf} {k : Nat} (h : Tab l xs c k) : xs.length ≤ 60 ∧ cellsOk xs = true := by
 rcases h with ⟨_, h1, _⟩ | ⟨rfl, _, _, _⟩
 · exact ⟨h1.1, h1.2.1⟩
 · exact ⟨by simp, rfl⟩
theorem tab_fit {l : List UInt8} {xs : List Cel} {c : Conf} {k : Nat} (h : Tab l xs c k) : Fit xs := fit_ok (tab_few h).2

theorem table_ends (xs : List Cel) (c : Conf) : endsRight (tableB xs c) := by
 have h := table_len xs c
 refine ⟨by omega, ?_⟩
 have e : tableB xs c = (outB xs c ++ (topB xs c ++ (filB xs ++ footB (outB xs c).length (topB xs c).length (filB xs).length xs.length c))) ++ magicB := by
   unfold tableB
   simp
 have hl : (tableB xs c).length - 6 = (outB xs c ++ (topB xs c ++ (filB xs ++ footB (outB xs c).length (topB xs c).length (filB xs).length xs.length c))).length := by
   rw [e, List.length_append]
   simp [magicB]
 rw [hl, e, List.drop_left]
theorem tab_foot {l : List UInt8} (h : ¬ endsRight l) : Tab l [] zeroConf 1 := .inr ⟨rfl, rfl, by rw [if_neg h], fun ys d _ e => h (by rw [← e]; exact table_ends ys d)⟩
theorem tab_form {l : List UInt8} (h : endsRight l) (hn : ∀ ys d, tabOk ys d → tableB ys d ≠ l) : Tab l [] zeroConf 2 := .inr ⟨rfl, rfl, by rw [if_pos h], hn⟩

theorem fix_at (n k : Nat) (l r : List UInt8) (h1 : 1 ≤ k) (h4 : k ≤ 4) (hn : n < 2 ^ (8 * k)) (a : Int) (ha : a = l.length) : getFix (l ++ (fixB n k ++ r)) a (k : Int) = (n : Int) := by
 subst ha
 unfold getFix
 rw [if_pos ⟨by omega, by omega, by omega, by simp only [List.length_append, fix_length]; omega⟩]
 rw [Int.toNat_natCast, Int.toNat_natCast, List.drop_left, List.take_append_of_le_length (by rw [fix_length]; omega), List.take_of_length_le (by rw [fix_length]; omega), fixVal_fix, Nat.mod_eq_of_lt hn]

theorem foot_reads (ys : List Cel) (d : Conf) (hT : tabOk ys d) (F : Int) (hF : F = ((tableB ys d).length : Int) - 38) :
   getFix (tableB ys d) F 4 = ((outB ys d).length : Int) ∧ getFix (tableB ys d) (F + 4) 4 = ((topB ys d).length : Int) ∧ getFix (tableB ys d) (F + 8) 4 = (((outB ys d).length + (topB ys d).length : Nat) : Int) ∧ getFix (tableB ys d) (F + 12) 4 = ((filB ys).length : Int)
   ∧ getFix (tableB ys d) (F + 16) 4 = (ys.length : Int) ∧ getFix (tableB ys d) (F + 20) 4 = d.every ∧ getFix (tableB ys d) (F + 24) 4 = d.size ∧ getFix (tableB ys d) (F + 28) 4 = (flag d.pack : Int) := by
 obtain ⟨b1, b2, b3, _⟩ := tab_bounds hT
 have hlen := table_len ys d
 have hc := conf_in hT.2.2.1
 have h60 := hT.1
 have e1 : d.every = (d.every.toNat : Int) := by omega
 have e2 : d.size = (d.size.toNat : Int) := by omega
 have hfl : flag d.pack < 4294967296 := by unfold flag; split <;> omega
 obtain ⟨P, hP⟩ : ∃ P, outB ys d ++ (topB ys d ++ filB ys) = P := ⟨_, rfl⟩
 have hPl : (P.length : Int) = F := by
   have : P.length = (outB ys d).length + (topB ys d).length + (filB ys).length := by rw [← hP]; simp; omega
   omega
 have ht : tableB ys d = P ++ (footB (outB ys d).length (topB ys d).length (filB ys).length ys.length d ++ magicB) := by
   rw [← hP]
   unfold tableB
   simp
 rw [e1, e2, ht]
 unfold footB
 obtain ⟨x0, hx0⟩ : ∃ x, (outB ys d).length = x := ⟨_, rfl⟩
 obtain ⟨x1, hx1⟩ : ∃ x, (topB ys d).length = x := ⟨_, rfl⟩
 obtain ⟨x2, hx2⟩ : ∃ x, (filB ys).length = x := ⟨_, rfl⟩
 rw [hx0, hx1, hx2]
 have q0 : x0 < 4294967296 := by omega
 have q1 : x1 < 4294967296 := by omega
 have q2 : x0 + x1 < 4294967296 := by omega
 have q3 : x2 < 4294967296 := by omega
 have q4 : ys.length < 4294967296 := by omega
 have q5 : d.every.toNat < 4294967296 := by omega
 have q6 : d.size.toNat < 4294967296 := by omega
 obtain ⟨z4, hz4⟩ : ∃ x, ys.length = x := ⟨_, rfl⟩
 obtain ⟨z5, hz5⟩ : ∃ x, d.every.toNat = x := ⟨_, rfl⟩
 obtain ⟨z6, hz6⟩ : ∃ x, d.size.toNat = x := ⟨_, rfl⟩
 obtain ⟨z7, hz7⟩ : ∃ x, flag d.pack = x := ⟨_, rfl⟩
 rw [hz4] at q4 ⊢
 rw [hz5] at q5 ⊢
 rw [hz6] at q6 ⊢
 rw [hz7] at hfl ⊢
 clear hz4 hz5 hz6 hz7 hx0 hx1 hx2 e1 e2 ht hP b1 b2 b3 hlen hc h60 hT
 have L : ∀ x, (fixB x 4).length = 4 := fun x => fix_length x 4
 refine ⟨?_, ?_, ?_, ?_, ?_, ?_, ?_, ?_⟩
 · rw [List.append_assoc]
   exact fix_at _ 4 P _ (by omega) (by omega) (by omega) _ hPl.symm
 · rw [show P ++ ((fixB x0 4 ++ (fixB x1 4 ++ (fixB (x0 + x1) 4 ++ (fixB x2 4 ++ (fixB z4 4 ++ (fixB z5 4 ++ (fixB z6 4 ++ fixB z7 4))))))) ++ magicB) = (P ++ fixB x0 4) ++ (fixB x1 4 ++ ((fixB (x0 + x1) 4 ++ (fixB x2 4 ++ (fixB z4 4 ++ (fixB z5 4 ++ (fixB z6 4 ++ fixB z7 4))))) ++ magicB)) by simp]
   exact fix_at _ 4 _ _ (by omega) (by omega) (by omega) _ (by simp only [List.length_append, L]; omega)
 · rw [show P ++ ((fixB x0 4 ++ (fixB x1 4 ++ (fixB (x0 + x1) 4 ++ (fixB x2 4 ++ (fixB z4 4 ++ (fixB z5 4 ++ (fixB z6 4 ++ fixB z7 4))))))) ++ magicB) = (P ++ (fixB x0 4 ++ fixB x1 4)) ++ (fixB (x0 + x1) 4 ++ ((fixB x2 4 ++ (fixB z4 4 ++ (fixB z5 4 ++ (fixB z6 4 ++ fixB z7 4)))) ++ magicB)) by simp]
   exact fix_at _ 4 _ _ (by omega) (by omega) (by omega) _ (by simp only [List.length_append, L]; omega)
 · rw [show P ++ ((fixB x0 4 ++ (fixB x1 4 ++ (fixB (x0 + x1) 4 ++ (fixB x2 4 ++ (fixB z4 4 ++ (fixB z5 4 ++ (fixB z6 4 ++ fixB z7 4))))))) ++ magicB) = (P ++ (fixB x0 4 ++ (fixB x1 4 ++ fixB (x0 + x1) 4))) ++ (fixB x2 4 ++ ((fixB z4 4 ++ (fixB z5 4 ++ (fixB z6 4 ++ fixB z7 4))) ++ magicB)) by simp]
   exact fix_at _ 4 _ _ (by omega) (by omega) (by omega) _ (by simp only [List.length_append, L]; omega)
 · rw [show P ++ ((fixB x0 4 ++ (fixB x1 4 ++ (fixB (x0 + x1) 4 ++ (fixB x2 4 ++ (fixB z4 4 ++ (fixB z5 4 ++ (fixB z6 4 ++ fixB z7 4))))))) ++ magicB) = (P ++ (fixB x0 4 ++ (fixB x1 4 ++ (fixB (x0 + x1) 4 ++ fixB x2 4)))) ++ (fixB z4 4 ++ ((fixB z5 4 ++ (fixB z6 4 ++ fixB z7 4)) ++ magicB)) by simp]
   exact fix_at _ 4 _ _ (by omega) (by omega) (by omega) _ (by simp only [List.length_append, L]; omega)
 · rw [show P ++ ((fixB x0 4 ++ (fixB x1 4 ++ (fixB (x0 + x1) 4 ++ (fixB x2 4 ++ (fixB z4 4 ++ (fixB z5 4 ++ (fixB z6 4 ++ fixB z7 4))))))) ++ magicB) = (P ++ (fixB x0 4 ++ (fixB x1 4 ++ (fixB (x0 + x1) 4 ++ (fixB x2 4 ++ fixB z4 4))))) ++ (fixB z5 4 ++ ((fixB z6 4 ++ fixB z7 4) ++ magicB)) by simp]
   exact fix_at _ 4 _ _ (by omega) (by omega) (by omega) _ (by simp only [List.length_append, L]; omega)
 · rw [show P ++ ((fixB x0 4 ++ (fixB x1 4 ++ (fixB (x0 + x1) 4 ++ (fixB x2 4 ++ (fixB z4 4 ++ (fixB z5 4 ++ (fixB z6 4 ++ fixB z7 4))))))) ++ magicB) = (P ++ (fixB x0 4 ++ (fixB x1 4 ++ (fixB (x0 + x1) 4 ++ (fixB x2 4 ++ (fixB z4 4 ++ fixB z5 4)))))) ++ (fixB z6 4 ++ (fixB z7 4 ++ magicB)) by simp]
   exact fix_at _ 4 _ _ (by omega) (by omega) (by omega) _ (by simp only [List.length_append, L]; omega)
 · rw [show P ++ ((fixB x0 4 ++ (fixB x1 4 ++ (fixB (x0 + x1) 4 ++ (fixB x2 4 ++ (fixB z4 4 ++ (fixB z5 4 ++ (fixB z6 4 ++ fixB z7 4))))))) ++ magicB) = (P ++ (fixB x0 4 ++ (fixB x1 4 ++ (fixB (x0 + x1) 4 ++ (fixB x2 4 ++ (fixB z4 4 ++ (fixB z5 4 ++ fixB z6 4))))))) ++ (fixB z7 4 ++ magicB) by simp]
   exact fix_at _ 4 _ _ (by omega) (by omega) (by omega) _ (by simp only [List.length_append, L]; omega)
theorem top_at (ys : List Cel) (d : Conf) : ((tableB ys d).drop (outB ys d).length).take (topB ys d).length = topB ys d := by
 unfold tableB
 rw [List.drop_left, List.take_left]
theorem top_read {ys : List Cel} {d : Conf} (hT : tabOk ys d) : unwrapB (topB ys d) = (idxTo ys d (nBlk ys d), 0) := by
 have h := hT.2.2.2.2
 unfold topB at h ⊢
 exact unwrap_wrap _ (wrap_some h)
def EntTold (s I : List UInt8) (a : Nat) (every : Int) (zs : List Cel) (b : Nat) : Prop :=
 ∃ (pre key rest before after : List UInt8) (p : Bool), I = pre ++ (varB key.length ++ (key ++ (varB before.length ++ (varB (wrapB (putBlock zs every) p).length ++ rest)))) ∧ pre.length = a ∧ s = before ++ (wrapB (putBlock zs every) p ++ after) ∧ putBlock zs every ≠ [] ∧ wrapB (putBlock zs every) p ≠ [] ∧ b + rest.length = I.length ∧ key.length ≤ 100 ∧ before.length ≤ 1000000
theorem told_reads {s I : List UInt8} {a b : Nat} {every : Int} {zs : List Cel} (h : EntTold s I a every zs b) :
   ∃ g1 g2 g3 : List UInt8, getVarAt I (a : Int) = some g1 ∧ a + g1.length + varVal g1 ≤ I.length ∧ getVarAt I ((a + g1.length + varVal g1 : Nat) : Int) = some g2 ∧ getVarAt I ((a + g1.length + varVal g1 + g2.length : Nat) : Int) = some g3 ∧
     varVal g2 + varVal g3 ≤ s.length ∧ unwrapB ((s.drop (varVal g2)).take (varVal g3)) = (putBlock zs every, 0) ∧ Got (putBlock zs every) every zs true ∧ b = a + g1.length + varVal g1 + g2.length + g3.length := by
 obtain ⟨pre, key, rest, before, after, p, h1, h2, h3, h4, h5, h6, h7, h8⟩ := h
 have hwl := wrap_most (putBlock zs every) p
 obtain ⟨W, hW⟩ : ∃ W, wrapB (putBlock zs every) p = W := ⟨_, rfl⟩
 have e1 := getVar_back key.length (by omega) pre (key ++ (varB before.length ++ (varB W.length ++ rest)))
 have e2 := getVar_back before.length (by omega) (pre ++ (varB key.length ++ key)) (varB W.length ++ rest)
 have e3 := getVar_back W.length (by rw [← hW]; omega) (pre ++ (varB key.length ++ (key ++ varB before.length))) rest
 rw [hW] at h1 h3 hwl
 have l2 : (pre ++ (varB key.length ++ key)).length = a + (varB key.length).length + key.length := by simp; omega
 have l3 : (pre ++ (varB key.length ++ (key ++ varB before.length))).length = a + (varB key.length).length + key.length + (varB before.length).length := by simp; omega
 rw [l2] at e2
 rw [l3] at e3
 have a2 : (pre ++ (varB key.length ++ key)) ++ (varB before.length ++ (varB W.length ++ rest)) = I := by rw [h1]; simp
 have a3 : (pre ++ (varB key.length ++ (key ++ varB before.length))) ++ (varB W.length ++ rest) = I := by rw [h1]; simp
 rw [a2] at e2
 rw [a3] at e3
 rw [← h1, h2] at e1
 have hil : I.length = a + (varB key.length).length + key.length + (varB before.length).length + (varB W.length).length + rest.length := by rw [h1]; simp; omega
 refine ⟨varB key.length, varB before.length, varB W.length, e1, ?_, ?_, ?_, ?_, ?_, .inl ⟨rfl, rfl, h4⟩, ?_⟩
 · rw [varVal_var]; omega
 · rw [varVal_var]; exact e2
 · rw [varVal_var]; exact e3
 · rw [varVal_var, varVal_var, h3]; simp
 · rw [varVal_var, varVal_var, h3, List.drop_left, List.take_left, ← hW]
   exact unwrap_wrap _ (wrap_some h5)
 · rw [varVal_var]; omega
theorem idx_more (ys : List Cel) (d : Conf) {k n : Nat} (h : k ≤ n) : ∃ r, idxTo ys d n = idxTo ys d k ++ r := by
 induction n with
 | zero => obtain rfl : k = 0 := by omega
           exact ⟨[], by simp⟩
 | succ n ih =>
   by_cases e : k = n + 1
   · subst e; exact ⟨[], by simp⟩
   · obtain ⟨r, hr⟩ := ih (by omega)
     exact ⟨r ++ idxAt ys d n, by rw [idxTo, hr, List.append_assoc]⟩
theorem out_more (ys : List Cel) (d : Conf) {k n : Nat} (h : k ≤ n) : ∃ r, outTo ys d n = outTo ys d k ++ r := by
 induction n with
 | zero => obtain rfl : k = 0 := by omega
           exact ⟨[], by simp⟩
 | succ n ih =>
   by_cases e : k = n + 1
   · subst e; exact ⟨[], by simp⟩
   · obtain ⟨r, hr⟩ := ih (by omega)
     exact ⟨r ++ blkAt ys d n, by rw [outTo, hr, List.append_assoc]⟩
theorem last_small {xs : List Cel} (h : cellsOk xs = true) : (lastOf [] xs).length ≤ 100 := by
 unfold lastOf
 cases hx : xs.getLast? with
 | none => simp
 | some x =>
   have := key_small (all_ok h x (List.mem_of_getLast? hx))
   show (celKey x).length ≤ 100
   omega
theorem told_at {ys : List Cel} {d : Conf} (hT : tabOk ys d) {k : Nat} (hk : k < nBlk ys d) :
   EntTold (tableB ys d) (idxTo ys d (nBlk ys d)) (idxTo ys d k).length d.every (partAt d.size.toNat k ys) (idxTo ys d (k + 1)).length := by
 obtain ⟨r, hr⟩ := idx_more ys d (show k + 1 ≤ nBlk ys d by omega)
 obtain ⟨q, hq⟩ := out_more ys d (show k + 1 ≤ nBlk ys d by omega)
 have hb := (tab_bounds hT).1
 have ho : (outTo ys d k).length ≤ (outB ys d).length := by
   unfold outB
   rw [hq, outTo]
   simp
 refine ⟨idxTo ys d k, lastOf [] (partAt d.size.toNat k ys), r, outTo ys d k, q ++ (topB ys d ++ (filB ys ++ (footB (outB ys d).length (topB ys d).length (filB ys).length ys.length d ++ magicB))), d.pack, ?_, rfl, ?_, part_block hT.2.1 hT.2.2.1 hk, hT.2.2.2.1 k hk, ?_, last_small (cells_part hT.2.1 _ _), by omega⟩
 · rw [hr, idxTo]
   unfold idxAt blkAt
   simp only [List.append_assoc]
 · unfold tableB
   rw [show outB ys d = outTo ys d k ++ (blkAt ys d k ++ q) by unfold outB; rw [hq, outTo, List.append_assoc]]
   unfold blkAt
   simp only [List.append_assoc]
 · rw [hr, List.length_append]
theorem idx_step (ys : List Cel) (d : Conf) (k : Nat) : (idxTo ys d k).length < (idxTo ys d (k + 1)).length := by
 rw [idxTo, List.length_append]
 unfold idxAt
 have := List.length_pos_iff.2 (var_ne (lastOf [] (partAt d.size.toNat k ys)).length)
 simp only [List.length_append]
 omega
theorem idx_mono (ys : List Cel) (d : Conf) {k n : Nat} (h : k < n) : (idxTo ys d k).length < (idxTo ys d n).length := by
 obtain ⟨r, hr⟩ := idx_more ys d (show k + 1 ≤ n by omega)
 have := idx_step ys d k
 rw [hr, List.length_append]
 omega
theorem take_part (ys : List Cel) (z k : Nat) : ys.take ((k + 1) * z) = ys.take (k * z) ++ partAt z k ys := by
 rw [Nat.succ_mul, List.take_add]
 rfl
def idxRaw (l : List UInt8) (a : Nat) : Option (Nat × Nat × Nat) :=
 match getVarAt l (a : Int) with
 | none => none
 | some g1 =>
   if l.length < a + g1.length + varVal g1 then none else
   match getVarAt l ((a + g1.length + varVal g1 : Nat) : Int) with
   | none => none
   | some g2 =>
     match getVarAt l ((a + g1.length + varVal g1 + g2.length : Nat) : Int) with
     | none => none
     | some g3 => some (varVal g2, varVal g3, a + g1.length + varVal g1 + g2.length + g3.length)
theorem ir_no1 {l : List UInt8} {a : Nat} (h : getVarAt l (a : Int) = none) : idxRaw l a = none := by unfold idxRaw; rw [h]
theorem ir_far {l g1 : List UInt8} {a : Nat} (h : getVarAt l (a : Int) = some g1) (h2 : l.length < a + g1.length + varVal g1) : idxRaw l a = none := by unfold idxRaw; simp only [h, if_pos h2]
theorem ir_no2 {l g1 : List UInt8} {a : Nat} (h : getVarAt l (a : Int) = some g1) (h1 : ¬ l.length < a + g1.length + varVal g1) (h2 : getVarAt l ((a + g1.length + varVal g1 : Nat) : Int) = none) : idxRaw l a = none := by unfold idxRaw; simp only [h, if_neg h1, h2]
theorem ir_no3 {l g1 g2 : List UInt8} {a : Nat} (h : getVarAt l (a : Int) = some g1) (h1 : ¬ l.length < a + g1.length + varVal g1) (h2 : getVarAt l ((a + g1.length + varVal g1 : Nat) : Int) = some g2) (h3 : getVarAt l ((a + g1.length + varVal g1 + g2.length : Nat) : Int) = none) : idxRaw l a = none := by unfold idxRaw; simp only [h, if_neg h1, h2, h3]
theorem ir_is {l g1 g2 g3 : List UInt8} {a : Nat} (h : getVarAt l (a : Int) = some g1) (h1 : ¬ l.length < a + g1.length + varVal g1) (h2 : getVarAt l ((a + g1.length + varVal g1 : Nat) : Int) = some g2) (h3 : getVarAt l ((a + g1.length + varVal g1 + g2.length : Nat) : Int) = some g3) :
   idxRaw l a = some (varVal g2, varVal g3, a + g1.length + varVal g1 + g2.length + g3.length) := by unfold idxRaw; simp only [h, if_neg h1, h2, h3]
theorem var_pos {l g : List UInt8} {a : Nat} (h : getVarAt l (a : Int) = some g) : 1 ≤ g.length ∧ a + g.length ≤ l.length ∧ varVal g ≤ 4611686018427387903 := get_pos h
theorem ir_some {l : List UInt8} {a x z b : Nat} (h : idxRaw l a = some (x, z, b)) : a + 3 ≤ b ∧ b ≤ l.length ∧ x ≤ 4611686018427387903 ∧ z ≤ 4611686018427387903 := by
 cases hg1 : getVarAt l (a : Int) with
 | none => rw [ir_no1 hg1] at h; cases h
 | some g1 =>
   by_cases hf : l.length < a + g1.length + varVal g1
   · rw [ir_far hg1 hf] at h; cases h
   · cases hg2 : getVarAt l ((a + g1.length + varVal g1 : Nat) : Int) with
     | none => rw [ir_no2 hg1 hf hg2] at h; cases h
     | some g2 =>
       cases hg3 : getVarAt l ((a + g1.length + varVal g1 + g2.length : Nat) : Int) with
       | none => rw [ir_no3 hg1 hf hg2 hg3] at h; cases h
       | some g3 =>
         rw [ir_is hg1 hf hg2 hg3] at h
         have p1 := var_pos hg1
         have p2 := var_pos hg2
         have p3 := var_pos hg3
         simp only [Option.some.injEq, Prod.mk.injEq] at h
         obtain ⟨rfl, rfl, rfl⟩ := h
         omega

def EntIs (s I : List UInt8) (a : Nat) (every : Int) (zs : List Cel) (b x z : Nat) : Prop :=
 ∃ (pre key rest before after : List UInt8) (p : Bool), I = pre ++ (varB key.length ++ (key ++ (varB before.length ++ (varB (wrapB (putBlock zs every) p).length ++ rest)))) ∧ pre.length = a ∧ s = before ++ (wrapB (putBlock zs every) p ++ after) ∧ putBlock zs every ≠ [] ∧ wrapB (putBlock zs every) p ≠ [] ∧ b + rest.length = I.length ∧ key.length ≤ 100 ∧ before.length ≤ 1000000 ∧ before.length = x ∧ (wrapB (putBlock zs every) p).length = z
theorem is_reads {s I : List UInt8} {a b x z : Nat} {every : Int} {zs : List Cel} (h : EntIs s I a every zs b x z) :
   idxRaw I a = some (x, z, b) ∧ x + z ≤ s.length ∧ unwrapB ((s.drop x).take z) = (putBlock zs every, 0) ∧ Got (putBlock zs every) every zs true := by
 obtain ⟨pre, key, rest, before, after, p, h1, h2, h3, h4, h5, h6, h7, h8, h9, h10⟩ := h
 have hwl := wrap_most (putBlock zs every) p
 obtain ⟨W, hW⟩ : ∃ W, wrapB (putBlock zs every) p = W := ⟨_, rfl⟩
 have e1 := getVar_back key.length (by omega) pre (key ++ (varB before.length ++ (varB W.length ++ rest)))
 have e2 := getVar_back before.length (by omega) (pre ++ (varB key.length ++ key)) (varB W.length ++ rest)
 have e3 := getVar_back W.length (by rw [← hW]; omega) (pre ++ (varB key.length ++ (key ++ varB before.length))) rest
 rw [hW] at h1 h3 h10 hwl
 have l2 : (pre ++ (varB key.length ++ key)).length = a + (varB key.length).length + key.length := by simp; omega
 have l3 : (pre ++ (varB key.length ++ (key ++ varB before.length))).length = a + (varB key.length).length + key.length + (varB before.length).length := by simp; omega
 rw [l2] at e2
 rw [l3] at e3
 have a2 : (pre ++ (varB key.length ++ key)) ++ (varB before.length ++ (varB W.length ++ rest)) = I := by rw [h1]; simp
 have a3 : (pre ++ (varB key.length ++ (key ++ varB before.length))) ++ (varB W.length ++ rest) = I := by rw [h1]; simp
 rw [a2] at e2
 rw [a3] at e3
 rw [← h1, h2] at e1
 have hil : I.length = a + (varB key.length).length + key.length + (varB before.length).length + (varB W.length).length + rest.length := by rw [h1]; simp; omega
 refine ⟨?_, ?_, ?_, .inl ⟨rfl, rfl, h4⟩⟩
 · have := ir_is (l := I) (a := a) (g1 := varB key.length) (g2 := varB before.length) (g3 := varB W.length) e1 (by rw [varVal_var]; omega) (by rw [varVal_var]; exact e2) (by rw [varVal_var]; exact e3)
   rw [this, varVal_var, varVal_var, varVal_var, show a + (varB key.length).length + key.length + (varB before.length).length + (varB W.length).length = b by omega, h9, h10]
 · rw [h3, ← h9, ← h10]; simp
 · rw [h3, ← h9, ← h10, List.drop_left, List.take_left, ← hW]
   exact unwrap_wrap _ (wrap_some h5)
theorem is_at {ys : List Cel} {d : Conf} (hT : tabOk ys d) {k : Nat} (hk : k < nBlk ys d) :
   EntIs (tableB ys d) (idxTo ys d (nBlk ys d)) (idxTo ys d k).length d.every (partAt d.size.toNat k ys) (idxTo ys d (k + 1)).length (outTo ys d k).length (blkAt ys d k).length := by
 obtain ⟨r, hr⟩ := idx_more ys d (show k + 1 ≤ nBlk ys d by omega)
 obtain ⟨q, hq⟩ := out_more ys d (show k + 1 ≤ nBlk ys d by omega)
 have hb := (tab_bounds hT).1
 have ho : (outTo ys d k).length ≤ (outB ys d).length := by
   unfold outB
   rw [hq, outTo]
   simp
 refine ⟨idxTo ys d k, lastOf [] (partAt d.size.toNat k ys), r, outTo ys d k, q ++ (topB ys d ++ (filB ys ++ (footB (outB ys d).length (topB ys d).length (filB ys).length ys.length d ++ magicB))), d.pack, ?_, rfl, ?_, part_block hT.2.1 hT.2.2.1 hk, hT.2.2.2.1 k hk, ?_, last_small (cells_part hT.2.1 _ _), by omega, rfl, rfl⟩
 · rw [hr, idxTo]
   unfold idxAt blkAt
   simp only [List.append_assoc]
 · unfold tableB
   rw [show outB ys d = outTo ys d k ++ (blkAt ys d k ++ q) by unfold outB; rw [hq, outTo, List.append_assoc]]
   unfold blkAt
   simp only [List.append_assoc]
 · rw [hr, List.length_append]

def NoTab (s : List UInt8) : Prop := ∀ ys d, tabOk ys d → tableB ys d ≠ s
def ReadsP (s : List UInt8) (r : List Cel) (a e : Nat) : Prop := ∀ ys d, tabOk ys d → tableB ys d = s → ∃ k, k ≤ nBlk ys d ∧ r = ys.take (k * d.size.toNat) ∧ a = (idxTo ys d k).length ∧ e = (outTo ys d k).length
def IdxOf (s I : List UInt8) (ev : Int) : Prop := ∀ ys d, tabOk ys d → tableB ys d = s → I = idxTo ys d (nBlk ys d) ∧ ev = d.every
theorem readsP_start (s : List UInt8) : ReadsP s [] 0 0 := fun ys d _ _ => ⟨0, Nat.zero_le _, by simp, rfl, rfl⟩
theorem readsP_at {s I : List UInt8} {ev : Int} {r : List Cel} {a e : Nat} (hi : IdxOf s I ev) (h : ReadsP s r a e) (ha : a < I.length) {ys : List Cel} {d : Conf} (hT : tabOk ys d) (hs : tableB ys d = s) :
   ∃ k z b zs, k + 1 ≤ nBlk ys d ∧ r ++ zs = ys.take ((k + 1) * d.size.toNat) ∧ idxRaw I a = some (e, z, b) ∧ e + z ≤ s.length ∧ unwrapB ((s.drop e).take z) = (putBlock zs ev, 0) ∧ Got (putBlock zs ev) ev zs true ∧ b = (idxTo ys d (k + 1)).length ∧ e + z = (outTo ys d (k + 1)).length := by
 obtain ⟨k, hk, hr, hx, he⟩ := h ys d hT hs
 obtain ⟨hI, hev⟩ := hi ys d hT hs
 have hkn : k < nBlk ys d := by
   by_cases e : k = nBlk ys d
   · rw [e, ← hI] at hx
     omega
   · omega
 have h2 := is_at hT hkn
 rw [hs, ← hI, ← hev, ← hx, ← he] at h2
 obtain ⟨g1, g2, g3, g4⟩ := is_reads h2
 exact ⟨k, _, _, _, by omega, by rw [hr, take_part], g1, g2, g3, g4, rfl, by rw [he, outTo, List.length_append]⟩
theorem readsP_none {s I : List UInt8} {ev : Int} {r : List Cel} {a e : Nat} (hi : IdxOf s I ev) (h : ReadsP s r a e) (ha : a < I.length) (hn : idxRaw I a = none) : NoTab s := fun ys d hT hs => by
 obtain ⟨k, z, b, zs, _, _, h1, _⟩ := readsP_at hi h ha hT hs
 rw [hn] at h1
 cases h1
theorem readsP_else {s I : List UInt8} {ev : Int} {r : List Cel} {a e x z b : Nat} (hi : IdxOf s I ev) (h : ReadsP s r a e) (ha : a < I.length) (hx : idxRaw I a = some (x, z, b)) (hn : x ≠ e) : NoTab s := fun ys d hT hs => by
 obtain ⟨k, z', b', zs, _, _, h1, _⟩ := readsP_at hi h ha hT hs
 rw [hx] at h1
 simp only [Option.some.injEq, Prod.mk.injEq] at h1
 exact hn h1.1
theorem readsP_far {s I : List UInt8} {ev : Int} {r : List Cel} {a e z b : Nat} (hi : IdxOf s I ev) (h : ReadsP s r a e) (ha : a < I.length) (hx : idxRaw I a = some (e, z, b)) (hn : s.length < e + z) : NoTab s := fun ys d hT hs => by
 obtain ⟨k, z', b', zs, _, _, h1, h2, _⟩ := readsP_at hi h ha hT hs
 rw [hx] at h1
 simp only [Option.some.injEq, Prod.mk.injEq] at h1
 omega
theorem readsP_bad {s I : List UInt8} {ev : Int} {r : List Cel} {a e z b : Nat} (hi : IdxOf s I ev) (h : ReadsP s r a e) (ha : a < I.length) (hx : idxRaw I a = some (e, z, b)) (hn : (unwrapB ((s.drop e).take z)).2 ≠ 0) : NoTab s := fun ys d hT hs => by
 obtain ⟨k, z', b', zs, _, _, h1, h2, h3, _⟩ := readsP_at hi h ha hT hs
 rw [hx] at h1
 simp only [Option.some.injEq, Prod.mk.injEq] at h1
 obtain ⟨_, rfl, _⟩ := h1
 rw [h3] at hn
 exact hn rfl
theorem readsP_not {s I : List UInt8} {ev : Int} {r r2 : List Cel} {a e z b : Nat} (hi : IdxOf s I ev) (h : ReadsP s r a e) (ha : a < I.length) (hx : idxRaw I a = some (e, z, b)) (hn : Got (unwrapB ((s.drop e).take z)).1 ev r2 false) : NoTab s := fun ys d hT hs => by
 obtain ⟨k, z', b', zs, _, _, h1, h2, h3, h4, _⟩ := readsP_at hi h ha hT hs
 rw [hx] at h1
 simp only [Option.some.injEq, Prod.mk.injEq] at h1
 obtain ⟨_, rfl, _⟩ := h1
 rw [h3] at hn
 cases (got_one hn h4).2
theorem readsP_step {s I : List UInt8} {ev : Int} {r r2 : List Cel} {a e z b : Nat} (hi : IdxOf s I ev) (h : ReadsP s r a e) (ha : a < I.length) (hx : idxRaw I a = some (e, z, b)) (hn : Got (unwrapB ((s.drop e).take z)).1 ev r2 true) : ReadsP s (r ++ r2) b (e + z) := fun ys d hT hs => by
 obtain ⟨k, z', b', zs, k1, k2, h1, h2, h3, h4, h5, h6⟩ := readsP_at hi h ha hT hs
 rw [hx] at h1
 simp only [Option.some.injEq, Prod.mk.injEq] at h1
 obtain ⟨_, rfl, rfl⟩ := h1
 rw [h3] at hn
 obtain rfl := (got_one hn h4).1
 exact ⟨k + 1, k1, k2, h5, h6⟩
theorem readsP_end {s I : List UInt8} {ev : Int} {r : List Cel} {a e : Nat} (hi : IdxOf s I ev) (h : ReadsP s r a e) (ha : I.length ≤ a) : ∀ ys d, tabOk ys d → tableB ys d = s → r = ys := by
 intro ys d hT hs
 obtain ⟨k, hk, hr, hn, _⟩ := h ys d hT hs
 have hI := (hi ys d hT hs).1
 have hkn : k = nBlk ys d := by
   by_cases e : k = nBlk ys d
   · exact e
   · have := idx_mono ys d (show k < nBlk ys d by omega)
     rw [← hI] at this
     omega
 rw [hr, hkn, List.take_of_length_le (nblk_all hT.2.2.1)]
def TokOut (w : World) (xs : List Tok) (e : Ending) (w' : World) : Prop := ∃ v, e = .returned v ∧ TRow w w' v xs

theorem toks_copy {l : List UInt8} {i : Nat} {t : List UInt8} (hi : i < l.length) (hc : 0 < (copyAt l i).1) : toksFrom l i t = flush t ++ ⟨[], (copyAt l i).1, (copyAt l i).2⟩ :: toksFrom l (i + (copyAt l i).1) [] := by
 rw [toksFrom, dif_pos hi, dif_pos hc]
theorem toks_full {l : List UInt8} {i : Nat} {t : List UInt8} (hi : i < l.length) (hc : ¬ 0 < (copyAt l i).1) (ht : t.length = 127) : toksFrom l i t = ⟨t, 0, 0⟩ :: toksFrom l (i + 1) [l[i]] := by
 rw [toksFrom, dif_pos hi, dif_neg hc, if_pos ht]
theorem toks_more {l : List UInt8} {i : Nat} {t : List UInt8} (hi : i < l.length) (hc : ¬ 0 < (copyAt l i).1) (ht : ¬ t.length = 127) : toksFrom l i t = toksFrom l (i + 1) (t ++ [l[i]]) := by
 rw [toksFrom, dif_pos hi, dif_neg hc, if_neg ht]
theorem toks_end {l : List UInt8} {i : Nat} {t : List UInt8} (hi : ¬ i < l.length) : toksFrom l i t = flush t := by
 rw [toksFrom, dif_neg hi]

theorem var_cell (w : World) (cs : Array Value) (U j : Nat) (o : Obj) : ((w.alloc (.cells cs U)).alloc o).cell? ⟨w.heap.size, j, none⟩ = cs[j]? := by
 have h1 : ((w.alloc (.cells cs U)).alloc o).heap[w.heap.size]? = some (.cells cs U (0, 0)) := by
   rw [heap_alloc_old (w.alloc (.cells cs U)) o (by simp), heap_alloc_new]
 simp [World.cell?, h1]
theorem lt2 (w : World) (a b : Obj) : w.heap.size < ((w.alloc a).alloc b).heap.size := by simp; omega
theorem lt_later {w : World} {b U : Nat} {cs : Array Value} {fz : Nat × Nat} (h : w.heap[b]? = some (.cells cs U fz)) (o : Obj) : b < (w.alloc o).heap.size := by
 have := (Array.getElem?_eq_some_iff.1 h).1
 simp; omega
theorem old_cell {w : World} {b U : Nat} {cs : Array Value} {fz : Nat × Nat} (h : w.heap[b]? = some (.cells cs U fz)) (o : Obj) (j : Nat) : (w.alloc o).cell? ⟨b, j, none⟩ = cs[j]? := by
 have hb : (w.alloc o).heap[b]? = some (.cells cs U fz) := by rw [heap_alloc_old w o (Array.getElem?_eq_some_iff.1 h).1]; exact h
 simp [World.cell?, hb]
theorem empty_text {T : ByteArray} (h : T.size = 0) : T = ⟨#[]⟩ := by
 apply bytes_ext
 have : T.data.toList.length = 0 := by simpa using h
 exact List.eq_nil_of_length_eq_zero this
theorem text_ne {T : ByteArray} (h : ¬ T.size = 0) : T.data.toList ≠ [] := fun e => h (by have := congrArg List.length e; simpa using this)
theorem flush_some {t : List UInt8} (h : t ≠ []) : flush t = [⟨t, 0, 0⟩] := by unfold flush; rw [if_neg h]
theorem var_block (w : World) (cs : Array Value) (U : Nat) (o : Obj) : ((w.alloc (.cells cs U)).alloc o).heap[w.heap.size]? = some (.cells cs U (0, 0)) := by
 rw [heap_alloc_old (w.alloc (.cells cs U)) o (by simp), heap_alloc_new]
theorem TRow.apart {w0 w : World} {g n c b : Nat} {xs : List Tok} {y : Tok} {v1 v2 : Value} (t : TRow w0 w (.slice (some ⟨g, 0, none⟩) n c) (xs ++ [y])) (hb : w.heap[b]? = some (.cells #[.string ⟨#[]⟩, v1, v2] 158 (0, 0))) (hy : y.text ≠ []) : b ≠ g := by
 rintro rfl
 rcases t.row.2 with ⟨h0, _⟩ | ⟨g', cap, cur, h1, _, h3, h4, _, h6, h7⟩
 · cases h0
 · cases h1
   rw [hb] at h3
   cases h3
   have hx : xs = [] := by
     cases xs with
     | nil => rfl
     | cons a l => simp at h4 h6; omega
   subst hx
   simp [tokCells] at h7
   exact hy h7.1
theorem few_copy {xs : List Tok} {y : Tok} {i c : Nat} (h : xs.length + (⟨#[]⟩ : ByteArray).size ≤ i) (hc : 4 ≤ c) : (xs ++ [y]).length + (⟨#[]⟩ : ByteArray).size ≤ i + c := by
 have e : (⟨#[]⟩ : ByteArray).size = 0 := rfl
 rw [e] at h ⊢
 rw [List.length_append, List.length_singleton]; omega
theorem few_text {xs : List Tok} {y z : Tok} {T : ByteArray} {i c : Nat} (h : xs.length + T.size ≤ i) (hT : ¬ T.size = 0) (hc : 4 ≤ c) : (xs ++ [y] ++ [z]).length + (⟨#[]⟩ : ByteArray).size ≤ i + c := by
 have e : (⟨#[]⟩ : ByteArray).size = 0 := rfl
 rw [e]
 rw [List.length_append, List.length_append, List.length_singleton, List.length_singleton]; omega
theorem one_more (T s : ByteArray) (i : Nat) (h : i < s.size) : (T ++ s.extract i (i + 1)).data.toList = T.data.toList ++ [s.data.toList[i]'(by simpa using h)] ∧ (T ++ s.extract i (i + 1)).size = T.size + 1 := by
 refine ⟨?_, by rw [ByteArray.size_append, ByteArray.size_extract]; omega⟩
 rw [ByteArray.data_append, Array.toList_append]
 congr 1
 simp only [ByteArray.data_extract, Array.toList_extract, List.extract_eq_take_drop]
 have e : i + 1 - i = 1 := by omega
 rw [e, List.drop_eq_getElem_cons (by simpa using h)]
 rfl
structure TokAt (w wr : World) (l : List UInt8) (v : Value) (i : Nat) (T : ByteArray) (xs : List Tok) : Prop where
 row : TRow w wr v xs
 rest : xs ++ toksFrom l i T.data.toList = toksFrom l 0 []
 few : xs.length + T.size ≤ i
 short : T.size ≤ 127

set_option maxHeartbeats 2000000 in
set_option maxRecDepth 100000 in
theorem specTokens_in (s : ByteArray) (w : World) (hs : s.size ≤ 2000) :
   Calls Tryz.prog 130 #[.string s] w (TokOut w (tokens s.data.toList)) := by
 have hll : s.data.toList.length = s.size := by simp
 have HLL := Lib.hid hll
 have HTK := Lib.hid (show tokens s.data.toList = toksFrom s.data.toList 0 [] by unfold tokens; rw [if_neg (by omega)])
 clear hll
 have hs' : ¬ (2000 : Int) < (s.size : Int) := by omega
 go_enter Tryz.func130, Tryz.ntmps130
 go_wp2_with fail
 go_loopw [3, 4, 5] (fun v tt ii wr => ∃ (i : Nat) (T : ByteArray) (xs : List Tok), i ≤ s.size ∧ ii = .int .i64 i ∧ tt = .string T ∧ TokAt w wr s.data.toList v i T xs) (fun _ _ ii _ => s.size - (intOf ii).toNat)
 case atStart => exact ⟨0, ⟨#[]⟩, [], by omega, rfl, rfl, ⟨trow_made w, rfl, Nat.le_refl _, by decide⟩⟩
 case round =>
   obtain ⟨i, T, xs, hi, rfl, rfl, t⟩ := hrel
   have TT := Lib.hid t
   have hfew := t.few
   have hshort := t.short
   clear t
   by_cases hlt : i < s.size
   · go_wp2_with fail
     refine (specCopy s i _ hs hlt).mono ?_
     rintro e w1 ⟨rfl, hb⟩
     have R1 := Lib.hid (TT.out.row.later hb)
     obtain ⟨c, hc⟩ : ∃ c, copyAt s.data.toList i = c := ⟨_, rfl⟩
     rw [hc]
     have HC := Lib.hid hc
     unfold copyV
     clear hb hc
     have R1b := Lib.hid (R1.out.later ((Below.refl _ w1).alloc (Nat.le_refl _) (.cells #[.string ⟨#[]⟩, .int .i64 c.1, .int .i64 c.2] 158)))
     have hvne : ∀ k, u3.ownBlock = some k → k < w1.heap.size := R1.out.old
     have HVN := Lib.hid hvne
     clear hvne
     by_cases hpos : 0 < c.1
     · have hck := copyAt_ok s.data.toList i (by rw [HC.out]; exact hpos)
       rw [HC.out, HLL.out] at hck
       have hstep := toks_copy (t := T.data.toList) (by rw [HLL.out]; exact hlt) (show 0 < (copyAt s.data.toList i).1 by rw [HC.out]; exact hpos)
       rw [HC.out] at hstep
       have HST := Lib.hid hstep
       have hc67 : c.1 ≤ 67 := hck.2.1
       have hc4 : 4 ≤ c.1 := hck.1
       have hcin : i + c.1 ≤ s.size := hck.2.2.2.2.2.1
       have hpos' : (0 : Int) < (c.1 : Int) := by omega
       clear hck hstep
       by_cases hT : T.size = 0
       · obtain rfl := empty_text hT
         have HREL := Lib.hid (show (xs ++ [⟨[], c.1, c.2⟩]) ++ toksFrom s.data.toList (i + c.1) [] = toksFrom s.data.toList 0 [] by
           have := TT.out.rest
           rw [HST.out] at this
           rw [← this]; simp [flush])
         go_wp2_with (at_builtin; refine wp_pushT ⟨[], c.1, c.2⟩ rfl rfl rfl rfl _ _ rfl rfl rfl (by first | rfl | simp) R1b.out (by omega) ?_; intro g2 c2 w2 t2 hg2; have T2 := Lib.hid t2; have hk1 := kept_cell hg2 (b := w1.heap.size) (lt2 _ _ _) (fun e => absurd (HVN.out _ e.symm) (by omega)) 1; rw [var_cell] at hk1; clear t2 hg2)
         go_roundw
         case rel => exact ⟨i + c.1, ⟨#[]⟩, xs ++ [⟨[], c.1, c.2⟩], by omega, by go_num, rfl, ⟨by simpa using T2.out, HREL.out, few_copy hfew hc4, by decide⟩⟩
         case measure => simp [intOf]; omega
       · have hne : T.toList.isEmpty = false := by rw [ByteArray.toList_eq, List.isEmpty_eq_false_iff]; exact text_ne hT
         have hne2 : ¬ T.toList = [] := by rw [ByteArray.toList_eq]; exact text_ne hT
         have HREL := Lib.hid (show (xs ++ [⟨T.data.toList, 0, 0⟩] ++ [⟨[], c.1, c.2⟩]) ++ toksFrom s.data.toList (i + c.1) [] = toksFrom s.data.toList 0 [] by
           have := TT.out.rest
           rw [HST.out, flush_some (text_ne hT)] at this
           rw [← this]; simp)
         go_wp2_with (first
           | (at_builtin; refine wp_pushT ⟨T.data.toList, 0, 0⟩ rfl rfl rfl rfl _ _ rfl rfl rfl (by first | rfl | simp) R1b.out (by omega) ?_; intro g2 c2 w2 t2 hg2; have T2 := Lib.hid t2; have hb2 := (hg2.block w1.heap.size (lt2 _ _ _) (fun e => absurd (HVN.out _ e.symm) (by omega))).trans (var_block _ _ _ _); have HB2 := Lib.hid hb2; have HAP := Lib.hid (t2.apart hb2 (text_ne hT)); have hk0 := kept_cell hg2 (b := w1.heap.size) (lt2 _ _ _) (fun e => absurd (HVN.out _ e.symm) (by omega)) 0; have hk1 := kept_cell hg2 (b := w1.heap.size) (lt2 _ _ _) (fun e => absurd (HVN.out _ e.symm) (by omega)) 1; have hk2 := kept_cell hg2 (b := w1.heap.size) (lt2 _ _ _) (fun e => absurd (HVN.out _ e.symm) (by omega)) 2; rw [var_cell] at hk0 hk1 hk2; clear t2 hb2 hg2)
           | (at_builtin; refine wp_pushT ⟨[], c.1, c.2⟩ rfl rfl rfl rfl _ _ rfl rfl rfl (by first | rfl | simp) T2.out (by simp; omega) ?_; intro g3 c3 w3 t3 hg3; have T3 := Lib.hid t3; have hm1 := (kept_cell hg3 (b := w1.heap.size) (lt_later HB2.out _) (fun e => HAP.out (by cases e; rfl)) 1).trans (old_cell HB2.out _ 1); clear t3 hg3))
         go_roundw
         case rel => exact ⟨i + c.1, ⟨#[]⟩, _, by omega, by go_num, rfl, ⟨by simpa using T3.out, HREL.out, few_text hfew hT hc4, by decide⟩⟩
         case measure => simp [intOf]; omega
     · have hc0 : c = (0, 0) := by rw [← HC.out]; exact copyAt_none _ _ (by rw [HC.out]; exact hpos)
       subst hc0
       have hnc : ¬ 0 < (copyAt s.data.toList i).1 := by rw [HC.out]; exact hpos
       have HNC := Lib.hid hnc
       have hs1 : (i : Int) + 1 ≤ (s.size : Int) := by omega
       clear hnc hpos
       by_cases hT : T.size = 127
       · have hne : T.toList.isEmpty = false := by rw [ByteArray.toList_eq, List.isEmpty_eq_false_iff]; exact text_ne (by omega)
         have hne2 : ¬ T.toList = [] := by rw [ByteArray.toList_eq]; exact text_ne (by omega)
         have h127 : ((T.size : Int) == 127) = true := by simp; omega
         have h1 := one_more ⟨#[]⟩ s i hlt
         have HREL := Lib.hid (show (xs ++ [⟨T.data.toList, 0, 0⟩]) ++ toksFrom s.data.toList (i + 1) ((⟨#[]⟩ : ByteArray) ++ s.extract i (i + 1)).data.toList = toksFrom s.data.toList 0 [] by
           have h0 := TT.out.rest
           rw [toks_full (by rw [HLL.out]; exact hlt) HNC.out (by simpa using hT)] at h0
           rw [h1.1, ← h0]; simp)
         have HS1 := Lib.hid h1.2
         clear h1
         go_wp2_with (at_builtin; refine wp_pushT ⟨T.data.toList, 0, 0⟩ rfl rfl rfl rfl _ _ rfl rfl rfl (by first | rfl | simp) R1b.out (by omega) ?_; intro g2 c2 w2 t2 hg2; have T2 := Lib.hid t2; have hk1 := kept_cell hg2 (b := w1.heap.size) (lt2 _ _ _) (fun e => absurd (HVN.out _ e.symm) (by omega)) 1; rw [var_cell] at hk1; clear t2 hg2)
         have e0 : (⟨#[]⟩ : ByteArray).size = 0 := rfl
         go_roundw
         case rel => exact ⟨i + 1, _, xs ++ [⟨T.data.toList, 0, 0⟩], by omega, by go_num, rfl, ⟨by simpa using T2.out, HREL.out, by rw [HS1.out, List.length_append, List.length_singleton]; omega, by rw [HS1.out]; omega⟩⟩
         case measure => simp [intOf]; omega
       · have h127 : ((T.size : Int) == 127) = false := by simp; omega
         have h1 := one_more T s i hlt
         have HREL := Lib.hid (show xs ++ toksFrom s.data.toList (i + 1) (T ++ s.extract i (i + 1)).data.toList = toksFrom s.data.toList 0 [] by
           have h0 := TT.out.rest
           rw [toks_more (by rw [HLL.out]; exact hlt) HNC.out (by simpa using hT)] at h0
           rw [h1.1, ← h0])
         have HS1 := Lib.hid h1.2
         clear h1
         by_cases hT0 : T.size = 0
         · obtain rfl := empty_text hT0
           have e0 : (⟨#[]⟩ : ByteArray).size = 0 := rfl
           go_wp2_with fail
           go_roundw
           case rel => exact ⟨i + 1, _, xs, by omega, by go_num, rfl, ⟨R1b.out, HREL.out, by rw [HS1.out]; omega, by rw [HS1.out]; omega⟩⟩
           case measure => simp [intOf]; omega
         · have hne : T.toList.isEmpty = false := by rw [ByteArray.toList_eq, List.isEmpty_eq_false_iff]; exact text_ne hT0
           have hne2 : ¬ T.toList = [] := by rw [ByteArray.toList_eq]; exact text_ne hT0
           go_wp2_with fail
           go_roundw
           case rel => exact ⟨i + 1, _, xs, by omega, by go_num, rfl, ⟨R1b.out, HREL.out, by rw [HS1.out]; omega, by rw [HS1.out]; omega⟩⟩
           case measure => simp [intOf]; omega
   · have HEND := Lib.hid (show xs ++ flush T.data.toList = tokens s.data.toList by
       rw [HTK.out, ← TT.out.rest, toks_end (by rw [HLL.out]; exact hlt)])
     by_cases hT : T.size = 0
     · obtain rfl := empty_text hT
       go_wp2
       go_ret
       exact ⟨_, rfl, by rw [← HEND.out, show flush (⟨#[]⟩ : ByteArray).data.toList = [] from rfl, List.append_nil]; exact TT.out.row⟩
     · have hne : T.toList.isEmpty = false := by rw [ByteArray.toList_eq, List.isEmpty_eq_false_iff]; exact text_ne hT
       have hne2 : ¬ T.toList = [] := by rw [ByteArray.toList_eq]; exact text_ne hT
       go_wp2_with (at_builtin; refine wp_pushT ⟨T.data.toList, 0, 0⟩ rfl rfl rfl rfl _ _ rfl rfl rfl (by first | rfl | simp) TT.out.row (by omega) ?_; intro g2 c2 w2 t2 hg2; have T2 := Lib.hid t2; clear t2 hg2)
       go_ret
       exact ⟨_, rfl, by rw [← HEND.out, flush_some (text_ne hT)]; simpa using T2.out⟩

theorem specTokens (s : ByteArray) (w : World) :
   Calls Tryz.prog 130 #[.string s] w (TokOut w (tokens s.data.toList)) := by
 by_cases hs : s.size ≤ 2000
 · exact specTokens_in s w hs
 · have HTK := Lib.hid (show tokens s.data.toList = [] by unfold tokens; rw [if_pos (by simpa using hs)])
   have hs' : (2000 : Int) < (s.size : Int) := by omega
   clear hs
   go_enter Tryz.func130, Tryz.ntmps130
   go_wp2
   go_ret
   exact ⟨_, rfl, by rw [HTK.out]; exact trow_made w⟩
def PackOut (w : World) (l : List UInt8) (e : Ending) (w' : World) : Prop := e = .returned (.string ⟨l.toArray⟩) ∧ Below w.heap.size w w'

theorem enc_pos (y : Tok) : 1 ≤ (encTok y).length := by unfold encTok; split <;> simp
theorem few_toks (xs : List Tok) : xs.length ≤ (xs.flatMap encTok).length := by
 induction xs with
 | nil => simp
 | cons a l ih => rw [List.flatMap_cons, List.length_append, List.length_cons]; have := enc_pos a; omega
theorem enc_part (xs : List Tok) (k : Nat) (y : Tok) (hk : xs[k]? = some y) : (xs.take (k + 1)).flatMap encTok = (xs.take k).flatMap encTok ++ encTok y ∧ ((xs.take k).flatMap encTok).length + (encTok y).length ≤ (xs.flatMap encTok).length := by
 obtain ⟨hkl, e⟩ := List.getElem?_eq_some_iff.1 hk
 have h1 : (xs.take (k + 1)).flatMap encTok = (xs.take k).flatMap encTok ++ encTok y := by
   rw [List.take_succ_eq_append_getElem hkl, e, List.flatMap_append]; simp
 refine ⟨h1, ?_⟩
 have h2 : xs.flatMap encTok = (xs.take (k + 1)).flatMap encTok ++ (xs.drop (k + 1)).flatMap encTok := by
   rw [← List.flatMap_append, List.take_append_drop]
 rw [h2, h1, List.length_append, List.length_append]
 omega
theorem wrap_len (n : Nat) (h : n ≤ 67) : IntKind.u8.wrap (IntKind.i64.wrap (124 + (n : Int))) = ((UInt8.ofNat (124 + n)).toNat : Int) := by
 rw [IntWalk.i64_in _ (by omega), IntWalk.u8_in _ (by omega), UInt8.toNat_ofNat']; omega
theorem wrap_far (n : Nat) (h : n ≤ 255) : IntKind.u8.wrap (n : Int) = ((UInt8.ofNat n).toNat : Int) := by
 rw [IntWalk.u8_in _ (by omega), UInt8.toNat_ofNat']; omega
theorem wrap_text (n : Nat) (h : n ≤ 127) : IntKind.u8.wrap (n : Int) = ((UInt8.ofNat n).toNat : Int) := wrap_far n (by omega)
theorem lt_of_block {w : World} {b U : Nat} {cs : Array Value} {fz : Nat × Nat} (h : w.heap[b]? = some (.cells cs U fz)) : b < w.heap.size := (Array.getElem?_eq_some_iff.1 h).1
theorem keep_block {w : World} {b U : Nat} {cs : Array Value} {fz : Nat × Nat} (h : w.heap[b]? = some (.cells cs U fz)) (o : Obj) : (w.alloc o).heap[b]? = some (.cells cs U fz) := by
 rw [heap_alloc_old w o (Array.getElem?_eq_some_iff.1 h).1]; exact h

theorem brow_conv {w0 w : World} {v : Value} {xs : List UInt8} (t : BRow w0 w v xs) : ∃ (n c : Nat) (a : Option Addr), v = .slice a n c ∧ (convert 22 9 (.slice a n c)).run Tryz.prog w = .ok (.string ⟨xs.toArray⟩) w := by
 rcases t.row.2 with ⟨h0, hn⟩ | ⟨g, cap, cur, h1, _⟩
 · have hx : xs = [] := List.eq_nil_of_length_eq_zero hn
   subst hx
   refine ⟨0, 0, none, h0, ?_⟩
   exact run_convert_bytes_nil (P := Tryz.prog) w 22 5 Tryz.underlying22 Tryz.underlying5 0 0 9 Tryz.underlying9
 · subst h1
   exact ⟨_, _, _, rfl, t.str rfl⟩

set_option maxHeartbeats 2000000 in
set_option maxRecDepth 100000 in
theorem specCompress (s : ByteArray) (w : World) :
   Calls Tryz.prog 100 #[.string s] w (PackOut w (compress s.data.toList)) := by
 have HCL := Lib.hid (compress_len s.data.toList)
 go_enter Tryz.func100, Tryz.ntmps100
 go_wp2_with fail
 refine (specTokens s _).mono ?_
 rintro e w1 ⟨v, rfl, t⟩
 obtain ⟨xs, hxs⟩ : ∃ xs, tokens s.data.toList = xs := ⟨_, rfl⟩
 rw [hxs] at t
 have HXS := Lib.hid hxs
 have HOK := Lib.hid (show ∀ y ∈ xs, TokOk y by rw [← hxs]; exact tokens_ok _)
 clear hxs
 have B1 := Lib.hid (show BRow w w1 (.slice (some ⟨w.heap.size, 0, none⟩) 0 0) [] from by
   have h := brow_made w
   refine ⟨?_, h.below.trans (t.below.mono h.below.size)⟩
   refine ⟨h.row.1, ?_⟩
   rcases h.row.2 with ⟨h0, _⟩ | ⟨g, cap, cur, h1, h2, h3, r⟩
   · cases h0
   · exact .inr ⟨g, cap, cur, h1, h2, (t.below.block g ((Array.getElem?_eq_some_iff.1 h3).1)).trans h3, r⟩)
 rcases t.row.2 with ⟨rfl, h0⟩ | ⟨gl, capl, cur, rfl, hgl, hcur, hn1, hn2, hn3, hn4⟩
 · have hx : xs = [] := List.eq_nil_of_length_eq_zero h0
   subst hx
   have HR := Lib.hid (show compress s.data.toList = [] by unfold compress; rw [HXS.out]; rfl)
   have hcv := B1.out.str (n := 0) (c := 0) rfl
   clear t h0
   go_wp2_with fail
   go_loop [3, 5] (fun v i => v = .slice (some ⟨w.heap.size, 0, none⟩) 0 0 ∧ i = .int .i64 0) (fun _ _ => 0)
   case atStart => exact ⟨rfl, rfl⟩
   case round =>
     obtain ⟨rfl, rfl⟩ := hrel
     go_wp2
     go_ret
     exact ⟨ret_text (a := []) HR.out.symm, B1.out.below⟩
 · have HCUR := Lib.hid (And.intro hcur hn4)
   have HTL := Lib.hid (show (xs.flatMap encTok).length ≤ 4001 by have := HCL.out; unfold compress at this; rw [HXS.out] at this; exact this)
   have hnl : xs.length ≤ 4001 := by have := few_toks xs; have := HTL.out; omega
   clear t hgl hcur hn4 hn3 hn2
   go_wp2_with fail
   go_loopw [3, 5] (fun v i wr => ∃ k : Nat, k ≤ xs.length ∧ i = .int .i64 k ∧ BRow w wr v ((xs.take k).flatMap encTok) ∧ wr.heap[gl]? = some (.cells cur 158 (0, 0))) (fun _ i _ => xs.length - (intOf i).toNat)
   case atStart => exact ⟨0, Nat.zero_le _, rfl, B1.out, HCUR.out.1⟩
   case round =>
     obtain ⟨k, hk, rfl, tb, hcu⟩ := hrel
     have TB := Lib.hid tb
     have HCU := Lib.hid hcu
     by_cases hlt : k < xs.length
     · obtain ⟨y, hy⟩ : ∃ y, xs[k]? = some y := ⟨_, List.getElem?_eq_getElem hlt⟩
       obtain ⟨c0, c1, c2⟩ := list_cells hcu HCUR.out.2 k y hy
       have HY := Lib.hid hy
       have hok := HOK.out y (List.mem_of_getElem? hy)
       have hlen : y.len ≤ 67 := by rcases hok with h | h <;> omega
       have htl : y.text.length ≤ 127 := by
         rcases hok with h | h
         · exact h.2.2.2
         · rw [h.1]; simp
       have hfar : y.far ≤ 255 := by rcases hok with h | h <;> omega
       clear tb hcu hy hok
       have i1 : (k : Int) < (xs.length : Int) := by omega
       by_cases hl : 0 < y.len
       · have hl1 : (0 : Int) < (y.len : Int) := by omega
         have HEN := Lib.hid (enc_part xs k y HY.out)
         have HEY := Lib.hid (show encTok y = [UInt8.ofNat (124 + y.len), UInt8.ofNat y.far] by unfold encTok; rw [if_pos hl])
         go_wp2_with fail
         refine wp_region_held_drew (S := fun w' => w'.heap[gl]? = some (.cells cur 158 (0, 0))) (by kernel_rfl) HCU.out (fun hHeld => ?_)
         refine tk 0 (some 21) ?_ ?hy hHeld ?_
         case hy => (intro w' hS; clear hS; go_simp <;> with_reducible rfl)
         simp only [Act.put, sA, sB, sC]
         refine tk 1 (some 22) ?_ ?hy hHeld ?_
         case hy => (intro w' hS; clear hS; go_simp <;> with_reducible rfl)
         simp only [Act.put, sA, sB, sC]
         refine tk 2 (some 23) ?_ ?hy hHeld ?_
         case hy => (intro w' hS; clear hS; go_simp <;> with_reducible rfl)
         simp only [Act.put, sA, sB, sC]
         refine tk 3 (some 24) ?_ ?hy hHeld ?_
         case hy => (intro w' hS; clear hS; go_simp <;> with_reducible rfl)
         simp only [Act.put, sA, sB, sC]
         refine tk 4 (some 25) ?_ ?hy hHeld ?_
         case hy => (intro w' hS; clear hS; go_simp <;> with_reducible rfl)
         simp only [Act.put, sA, sB, sC]
         refine tk 5 (some 26) ?_ ?hy hHeld ?_
         case hy => (intro w' hS; obtain ⟨c0, c1, c2⟩ := list_cells hS HCUR.out.2 k y HY.out; clear hS; go_simp <;> with_reducible rfl)
         simp only [Act.put, sA, sB, sC]
         refine tk 6 (some 27) ?_ ?hy hHeld ?_
         case hy => (intro w' hS; clear hS; go_simp <;> with_reducible rfl)
         simp only [Act.put, sA, sB, sC]
         refine tk 7 (some 28) ?_ ?hy hHeld ?_
         case hy => (intro w' hS; clear hS; go_simp <;> with_reducible rfl)
         simp only [Act.put, sA, sB, sC]
         refine tk 8 (some 29) ?_ ?hy hHeld ?_
         case hy => (intro w' hS; clear hS; go_simp <;> with_reducible rfl)
         simp only [Act.put, sA, sB, sC]
         refine tk 9 (some 30) ?_ ?hy hHeld ?_
         case hy => (intro w' hS; clear hS; go_simp <;> with_reducible rfl)
         simp only [Act.put, sA, sB, sC]
         refine tk 10 (some 31) ?_ ?hy hHeld ?_
         case hy => (intro w' hS; clear hS; go_simp <;> with_reducible rfl)
         simp only [Act.put, sA, sB, sC]
         refine tk 11 (some 32) ?_ ?hy hHeld ?_
         case hy => (intro w' hS; clear hS; go_simp <;> with_reducible rfl)
         simp only [Act.put, sA, sB, sC]
         refine tk 12 (some 33) ?_ ?hy hHeld ?_
         case hy => (intro w' hS; obtain ⟨c0, c1, c2⟩ := list_cells hS HCUR.out.2 k y HY.out; clear hS; go_simp <;> with_reducible rfl)
         simp only [Act.put, sA, sB, sC]
         refine tk 13 (some 34) ?_ ?hy hHeld ?_
         case hy => (intro w' hS; clear hS; go_simp <;> with_reducible rfl)
         simp only [Act.put, sA, sB, sC]
         refine wpAnyH_ready (rs := [14]) (by kernel_rfl) (by simp) ?_
         refine AllReadyH.cons rfl (fun K hK => ?_) AllReadyH.nil
         go_simp
         refine hK.out _ _ (keep_block HCU.out _) (fun hHeld => ?_)
         clear hK K
         refine wpAnyH_ready (rs := [15]) (by kernel_rfl) (by simp) ?_
         refine AllReadyH.cons rfl (fun K hK => ?_) AllReadyH.nil
         rw [if_pos (by rfl)]
         refine op_pushL [UInt8.ofNat (124 + y.len), UInt8.ofNat y.far] _ _ rfl rfl rfl (two_bytes wr _ _ (wrap_len _ hlen) (wrap_far _ hfar)) ((TB.out.alloc _).drewN 1) (by have := HEN.out.2; have := HTL.out; rw [HEY.out] at *; simp only [List.length_cons, List.length_nil] at *; omega) ?_
         intro v2 w2 t2 hg2
         have HB2 := Lib.hid ((hg2.block gl (lt_later HCU.out _) (TB.out.apart HCU.out (by decide))).trans (keep_block HCU.out _))
         have T2 := Lib.hid t2
         clear t2 hg2
         refine hK.out _ _ HB2.out (fun hHeld => ?_)
         clear hK K
         refine tk 16 (some 3) ?_ ?hy hHeld ?_
         case hy => (intro w' hS; clear hS; go_simp <;> with_reducible rfl)
         refine wpAnyH_done (by kernel_rfl) ?_ _
         go_wp2_with fail
         go_roundw
         case rel => exact ⟨k + 1, by omega, by go_num, by rw [HEN.out.1, HEY.out]; exact T2.out, HB2.out⟩
         case measure => simp [intOf]; omega
       · have hl1 : ¬ (0 : Int) < (y.len : Int) := by omega
         have HEN := Lib.hid (enc_part xs k y HY.out)
         have HEY := Lib.hid (show encTok y = UInt8.ofNat y.text.length :: y.text by unfold encTok; rw [if_neg hl])
         go_wp2_with fail
         refine wp_region_held_drew (S := fun w' => w'.heap[gl]? = some (.cells cur 158 (0, 0))) (by kernel_rfl) HCU.out (fun hHeld => ?_)
         refine tk 0 (some 37) ?_ ?hy hHeld ?_
         case hy => (intro w' hS; clear hS; go_simp <;> with_reducible rfl)
         simp only [Act.put, sA, sB, sC]
         refine tk 1 (some 38) ?_ ?hy hHeld ?_
         case hy => (intro w' hS; clear hS; go_simp <;> with_reducible rfl)
         simp only [Act.put, sA, sB, sC]
         refine tk 2 (some 39) ?_ ?hy hHeld ?_
         case hy => (intro w' hS; clear hS; go_simp <;> with_reducible rfl)
         simp only [Act.put, sA, sB, sC]
         refine tk 3 (some 40) ?_ ?hy hHeld ?_
         case hy => (intro w' hS; clear hS; go_simp <;> with_reducible rfl)
         simp only [Act.put, sA, sB, sC]
         refine tk 4 (some 41) ?_ ?hy hHeld ?_
         case hy => (intro w' hS; clear hS; go_simp <;> with_reducible rfl)
         simp only [Act.put, sA, sB, sC]
         refine tk 5 (some 42) ?_ ?hy hHeld ?_
         case hy => (intro w' hS; obtain ⟨c0, c1, c2⟩ := list_cells hS HCUR.out.2 k y HY.out; clear hS; go_simp <;> with_reducible rfl)
         simp only [Act.put, sA, sB, sC]
         refine tk 6 (some 43) ?_ ?hy hHeld ?_
         case hy => (intro w' hS; clear hS; go_simp <;> with_reducible rfl)
         simp only [Act.put, sA, sB, sC]
         refine tk 7 (some 44) ?_ ?hy hHeld ?_
         case hy => (intro w' hS; clear hS; go_simp <;> with_reducible rfl)
         simp only [Act.put, sA, sB, sC]
         refine tk 10 (some 47) ?_ ?hy hHeld ?_
         case hy => (intro w' hS; clear hS; go_simp <;> with_reducible rfl)
         simp only [Act.put, sA, sB, sC]
         refine tk 11 (some 48) ?_ ?hy hHeld ?_
         case hy => (intro w' hS; clear hS; go_simp <;> with_reducible rfl)
         simp only [Act.put, sA, sB, sC]
         refine tk 12 (some 49) ?_ ?hy hHeld ?_
         case hy => (intro w' hS; clear hS; go_simp <;> with_reducible rfl)
         simp only [Act.put, sA, sB, sC]
         refine tk 13 (some 50) ?_ ?hy hHeld ?_
         case hy => (intro w' hS; clear hS; go_simp <;> with_reducible rfl)
         simp only [Act.put, sA, sB, sC]
         refine tk 14 (some 51) ?_ ?hy hHeld ?_
         case hy => (intro w' hS; obtain ⟨c0, c1, c2⟩ := list_cells hS HCUR.out.2 k y HY.out; clear hS; go_simp <;> with_reducible rfl)
         simp only [Act.put, sA, sB, sC]
         refine wpAnyH_ready (rs := [8]) (by kernel_rfl) (by simp) ?_
         refine AllReadyH.cons rfl (fun K hK => ?_) AllReadyH.nil
         go_simp
         refine hK.out _ _ (keep_block HCU.out _) (fun hHeld => ?_)
         clear hK K
         refine wpAnyH_ready (rs := [9]) (by kernel_rfl) (by simp) ?_
         refine AllReadyH.cons rfl (fun K hK => ?_) AllReadyH.nil
         rw [if_pos (by rfl)]
         refine op_pushL [UInt8.ofNat y.text.length] _ _ rfl rfl rfl (one_byte wr _ (wrap_text _ htl)) ((TB.out.alloc _).drewN 1) (by have := HEN.out.2; have := HTL.out; simp only [List.length_cons, List.length_nil] at *; omega) ?_
         intro v2 w2 t2 hg2
         have HB2 := Lib.hid ((hg2.block gl (lt_later HCU.out _) (TB.out.apart HCU.out (by decide))).trans (keep_block HCU.out _))
         have T2 := Lib.hid t2
         clear t2 hg2
         refine hK.out _ _ HB2.out (fun hHeld => ?_)
         clear hK K
         refine wpAnyH_ready (rs := [15]) (by kernel_rfl) (by simp) ?_
         refine AllReadyH.cons rfl (fun K hK => ?_) AllReadyH.nil
         rw [if_pos (by rfl)]
         refine op_pushS ⟨y.text.toArray⟩ _ _ rfl rfl rfl T2.out (by have := HEN.out.2; have := HTL.out; rw [HEY.out] at *; simp [ByteArray.size] at *; omega) ?_
         intro v3 w3 t3 hg3
         have HB3 := Lib.hid ((hg3.block gl (lt_of_block HB2.out) (T2.out.apart HB2.out (by decide))).trans HB2.out)
         have T3 := Lib.hid t3
         clear t3 hg3
         refine hK.out _ _ HB3.out (fun hHeld => ?_)
         clear hK K
         refine tk 16 (some 3) ?_ ?hy hHeld ?_
         case hy => (intro w' hS; clear hS; go_simp <;> with_reducible rfl)
         refine wpAnyH_done (by kernel_rfl) ?_ _
         go_wp2_with fail
         go_roundw
         case rel => exact ⟨k + 1, by omega, by go_num, by rw [HEN.out.1, HEY.out]; simpa using T3.out, HB3.out⟩
         case measure => simp [intOf]; omega
     · obtain rfl : k = xs.length := by omega
       have e0 : xs.take xs.length = xs := List.take_of_length_le (Nat.le_refl _)
       rw [e0] at tb TB
       have HR := Lib.hid (show compress s.data.toList = xs.flatMap encTok by unfold compress; rw [HXS.out])
       obtain ⟨E, hE⟩ : ∃ E, xs.flatMap encTok = E := ⟨_, rfl⟩
       rw [hE] at tb TB HR
       clear hE e0 hcu
       obtain ⟨n, cc, g, hv, hcv⟩ := brow_conv tb
       subst hv
       clear tb
       go_wp2
       go_ret
       exact ⟨ret_text HR.out.symm, TB.out.below⟩
def ExpOut (w : World) (l : List UInt8) (e : Ending) (w' : World) : Prop := e = .returned (.tuple #[.string ⟨(expand1 l).toArray⟩, .bool (expand2 l)]) ∧ Below w.heap.size w w'

theorem ret_exp {a b : ByteArray} {c d : Bool} (h1 : a = b) (h2 : c = d) : Ending.returned (.tuple #[.string a, .bool c]) = .returned (.tuple #[.string b, .bool d]) := by rw [h1, h2]
theorem exp_none {l : List UInt8} (h : decFrom l 0 [] = none) : expand1 l = [] ∧ expand2 l = false := by unfold expand1 expand2 expandB; rw [h]; exact ⟨rfl, rfl⟩
theorem exp_yes {l out : List UInt8} (h : decFrom l 0 [] = some out) (h2 : compress out = l) : expand1 l = out ∧ expand2 l = true := by unfold expand1 expand2 expandB; rw [h]; simp [h2]
theorem exp_no {l out : List UInt8} (h : decFrom l 0 [] = some out) (h2 : ¬ compress out = l) : expand1 l = [] ∧ expand2 l = false := by unfold expand1 expand2 expandB; rw [h]; simp [h2]

theorem BRow.form {w0 w : World} {v : Value} {xs : List UInt8} (t : BRow w0 w v xs) : ∃ (a : Option Addr) (c : Nat), v = .slice a xs.length c ∧ ∀ j, j < xs.length → ∃ g, a = some ⟨g, 0, none⟩ ∧ xs.length ≤ c ∧ w.cell? ⟨g, j, none⟩ = some (u8v (xs.getD j 0)) := by
 rcases t.row.2 with ⟨h0, hn⟩ | ⟨g, cap, cur, h1, _, _, hc, _⟩
 · exact ⟨none, 0, by rw [hn]; exact h0, fun j hj => by omega⟩
 · subst h1
   exact ⟨_, cap, rfl, fun j hj => ⟨g, rfl, hc, t.cell j hj⟩⟩

theorem BRow.later {w0 w w' : World} {v : Value} {xs : List UInt8} (t : BRow w0 w v xs) (hb : Below w.heap.size w w') : BRow w0 w' v xs := by
 refine ⟨?_, t.below.trans (hb.mono t.below.size)⟩
 refine ⟨t.row.1, ?_⟩
 rcases t.row.2 with h2 | ⟨g, cap, cur, h1, h2, h3, r⟩
 · exact .inl h2
 · exact .inr ⟨g, cap, cur, h1, h2, (hb.block g ((Array.getElem?_eq_some_iff.1 h3).1)).trans h3, r⟩
theorem BRow.str2 {w0 w : World} {a : Option Addr} {c n : Nat} {xs : List UInt8} (t : BRow w0 w (.slice a n c) xs) : (convert 22 9 (.slice a n c)).run Tryz.prog w = .ok (.string ⟨xs.toArray⟩) w := by
 obtain ⟨n', c', a', hv, h⟩ := brow_conv t
 cases hv
 exact h
theorem dec_text {s out : List UInt8} {i : Nat} (h : i < s.length) (hb : 1 ≤ s[i].toNat ∧ s[i].toNat ≤ 127) (hl : i + 1 + s[i].toNat ≤ s.length) : decFrom s i out = decFrom s (i + 1 + s[i].toNat) (out ++ (s.drop (i + 1)).take s[i].toNat) := by
 rw [decFrom, dif_pos h, dif_pos hb, if_pos hl]
theorem dec_cut {s out : List UInt8} {i : Nat} (h : i < s.length) (hb : 1 ≤ s[i].toNat ∧ s[i].toNat ≤ 127) (hl : ¬ i + 1 + s[i].toNat ≤ s.length) : decFrom s i out = none := by
 rw [decFrom, dif_pos h, dif_pos hb, if_neg hl]
theorem dec_bad {s out : List UInt8} {i : Nat} (h : i < s.length) (hb : ¬ (1 ≤ s[i].toNat ∧ s[i].toNat ≤ 127)) (hc : s[i].toNat = 0 ∨ s.length ≤ i + 1 ∨ (s.getD (i + 1) 0).toNat = 0 ∨ out.length < (s.getD (i + 1) 0).toNat ∨ 2000 < out.length) : decFrom s i out = none := by
 rw [decFrom, dif_pos h, dif_neg hb, if_pos hc]
theorem dec_copy {s out : List UInt8} {i : Nat} (h : i < s.length) (hb : ¬ (1 ≤ s[i].toNat ∧ s[i].toNat ≤ 127)) (hc : ¬ (s[i].toNat = 0 ∨ s.length ≤ i + 1 ∨ (s.getD (i + 1) 0).toNat = 0 ∨ out.length < (s.getD (i + 1) 0).toNat ∨ 2000 < out.length)) : decFrom s i out = decFrom s (i + 2) (copyOut out (s.getD (i + 1) 0).toNat (s[i].toNat - 124)) := by
 rw [decFrom, dif_pos h, dif_neg hb, if_neg hc]
theorem dec_end {s out : List UInt8} {i : Nat} (h : ¬ i < s.length) : decFrom s i out = some out := by
 rw [decFrom, dif_neg h]
theorem ne_false (A : ByteArray) : (!A.toList == A.toList) = false := by simp
theorem ne_true {A B : ByteArray} (h : A.data.toList ≠ B.data.toList) : (!A.toList == B.toList) = true := by rw [ByteArray.toList_eq, ByteArray.toList_eq]; simpa using h
theorem mid_list (s : ByteArray) (a n : Nat) : (s.extract a (a + n)).data.toList = (s.data.toList.drop a).take n := by
 simp only [ByteArray.data_extract, Array.toList_extract, List.extract_eq_take_drop]
 congr 1
 omega

set_option maxHeartbeats 4000000 in
set_option maxRecDepth 100000 in
theorem specExpand (s : ByteArray) (w : World) (hs : s.size ≤ 100000000) :
   Calls Tryz.prog 112 #[.string s] w (ExpOut w s.data.toList) := by
 have hll : s.data.toList.length = s.size := by simp
 have HLL := Lib.hid hll
 clear hll
 go_enter Tryz.func112, Tryz.ntmps112
 go_wp2_with fail
 go_loopw [4, 5] (fun v ii wr => ∃ (i : Nat) (out : List UInt8), i ≤ s.size ∧ ii = .int .i64 i ∧ out.length ≤ 2131 + i ∧ BRow w wr v out ∧ Hid (decFrom s.data.toList i out = decFrom s.data.toList 0 [])) (fun _ ii _ => s.size - (intOf ii).toNat)
 case atStart => exact ⟨0, [], by omega, rfl, by simp, brow_made w, rfl⟩
 case round =>
   obtain ⟨i, out, hi, rfl, hol, t, HD⟩ := hrel
   have TT := Lib.hid t
   obtain ⟨a, c, rfl, hcell⟩ := t.form
   have HCELL := Lib.hid hcell
   clear hcell
   by_cases hlt : i < s.size
   · have i1 : (i : Int) < (s.size : Int) := by omega
     have hb := s[i].toNat_lt
     clear t
     by_cases hb1 : 1 ≤ s[i].toNat ∧ s[i].toNat ≤ 127
     · obtain ⟨b1, b2⟩ := hb1
       by_cases hfit : i + 1 + s[i].toNat ≤ s.size
       · have HD2 := Lib.hid (show decFrom s.data.toList (i + 1 + s[i].toNat) (out ++ (s.data.toList.drop (i + 1)).take s[i].toNat) = decFrom s.data.toList 0 [] from
           (dec_text (s := s.data.toList) (out := out) (i := i) (Nat.lt_of_lt_of_eq hlt HLL.out.symm) ⟨b1, b2⟩ (by have h9 := HLL.out; have h8 : s.data.toList[i]'(Nat.lt_of_lt_of_eq hlt HLL.out.symm) = s[i] := rfl; rw [h8]; omega)).symm.trans HD.out)
         obtain ⟨P, hP⟩ : ∃ P, s.extract (i + 1) (i + 1 + s[i].toNat) = P := ⟨_, rfl⟩
         have HPL := Lib.hid (show P.data.toList = (s.data.toList.drop (i + 1)).take s[i].toNat by rw [← hP, mid_list])
         have hPs : P.size = s[i].toNat := by rw [← hP, ByteArray.size_extract]; omega
         have hPs1 : P.size ≤ 127 := by omega
         have HPS := Lib.hid hPs
         have HPL2 := Lib.hid (show P.data.toList.length = s[i].toNat by rw [← hPs]; simp)
         have e2 : ((i : Int) + 1 + (s[i].toNat : Int)).toNat = i + 1 + s[i].toNat := by omega
         clear hPs
         go_wp2_with (first
           | (go_at_call 61; refine (specIn_yes _ _ _ _ (by omega) (by omega)).mono ?_; rintro e w1 ⟨rfl, rfl⟩)
           | (at_builtin; refine wpList_plain rfl (fun K hK => ?_); refine op_pushS P _ _ rfl rfl rfl TT.out (by omega) ?_; intro v2 w2 t2 hg2; refine hK _ _ ?_; clear hK K; have T2 := Lib.hid t2; clear t2 hg2))
         go_roundw
         case rel => exact ⟨i + 1 + s[i].toNat, _, by omega, by go_num, by rw [List.length_append, HPL2.out]; omega, T2.out, by rw [HPL.out]; exact HD2.out⟩
         case measure => simp [intOf]; omega
       · have HN := Lib.hid (HD.out.symm.trans (dec_cut (s := s.data.toList) (out := out) (i := i) (Nat.lt_of_lt_of_eq hlt HLL.out.symm) ⟨b1, b2⟩ (by have h9 := HLL.out; have h8 : s.data.toList[i]'(Nat.lt_of_lt_of_eq hlt HLL.out.symm) = s[i] := rfl; rw [h8]; omega)))
         have hfit' : (s.size : Int) < (i : Int) + 1 + (s[i].toNat : Int) := by omega
         go_wp2_with (first
           | (go_at_call 61; refine (specIn_yes _ _ _ _ (by omega) (by omega)).mono ?_; rintro e w1 ⟨rfl, rfl⟩))
         go_ret2
         exact ⟨ret_exp (a := ⟨#[]⟩) (by rw [(exp_none HN.out).1]) (exp_none HN.out).2.symm, TT.out.below⟩
     · have HNB := Lib.hid hb1
       have hnb : (s[i].toNat : Int) < 1 ∨ 127 < (s[i].toNat : Int) := by omega
       by_cases h0 : s[i].toNat = 0
       · have d0 : ((s[i].toNat : Int) == 0) = true := by rw [h0]; rfl
         have HH0 := Lib.hid h0
         clear h0
         have HN := Lib.hid (HD.out.symm.trans (dec_bad (s := s.data.toList) (out := out) (i := i) (Nat.lt_of_lt_of_eq hlt HLL.out.symm) HNB.out (.inl HH0.out)))
         clear hb1
         go_wp2_with (first
           | (go_at_call 61; refine (specIn_no _ _ _ _ hnb).mono ?_; rintro e w1 ⟨rfl, rfl⟩))
         go_ret2
         exact ⟨ret_exp (a := ⟨#[]⟩) (by rw [(exp_none HN.out).1]) (exp_none HN.out).2.symm, TT.out.below⟩
       · have d0 : ((s[i].toNat : Int) == 0) = false := by simp; omega
         have hbig : 128 ≤ s[i].toNat := by omega
         have HH0 := Lib.hid h0
         clear h0
         have w1 : IntKind.i64.wrap ((i : Int) + 1) = (i : Int) + 1 := IntWalk.i64_in _ (by omega)
         by_cases h1 : i + 1 < s.size
         · have d1 : decide ((s.size : Int) ≤ (i : Int) + 1) = false := by simp; omega
           have j1 : (i : Int) + 1 < (s.size : Int) := by omega
           have j2 : ((i : Int) + 1).toNat = i + 1 := by omega
           have HS1 := Lib.hid (show s.data.toList.getD (i + 1) 0 = s[i + 1] by rw [List.getD_eq_getElem?_getD, byte_at s (i + 1) h1]; rfl)
           have hfb := s[i + 1].toNat_lt
           by_cases h2 : s[i + 1].toNat = 0
           · have d2 : ((s[i + 1].toNat : Int) == 0) = true := by rw [h2]; rfl
             have HH2 := Lib.hid h2
             clear h2
             have HN := Lib.hid (HD.out.symm.trans (dec_bad (s := s.data.toList) (out := out) (i := i) (Nat.lt_of_lt_of_eq hlt HLL.out.symm) HNB.out (.inr (.inr (.inl (by rw [HS1.out]; exact HH2.out))))))
             clear hb1
             go_wp2_with (first
               | (go_at_call 61; refine (specIn_no _ _ _ _ hnb).mono ?_; rintro e w1 ⟨rfl, rfl⟩))
             go_ret2
             exact ⟨ret_exp (a := ⟨#[]⟩) (by rw [(exp_none HN.out).1]) (exp_none HN.out).2.symm, TT.out.below⟩
           · have d2 : ((s[i + 1].toNat : Int) == 0) = false := by simp; omega
             have HH2 := Lib.hid h2
             have hf1 : 1 ≤ s[i + 1].toNat := by omega
             clear h2
             by_cases h3 : out.length < s[i + 1].toNat
             · have d3 : decide ((out.length : Int) < (s[i + 1].toNat : Int)) = true := by simp; omega
               have HN := Lib.hid (HD.out.symm.trans (dec_bad (s := s.data.toList) (out := out) (i := i) (Nat.lt_of_lt_of_eq hlt HLL.out.symm) HNB.out (.inr (.inr (.inr (.inl (by rw [HS1.out]; exact h3)))))))
               clear hb1
               go_wp2_with (first
                 | (go_at_call 61; refine (specIn_no _ _ _ _ hnb).mono ?_; rintro e w1 ⟨rfl, rfl⟩))
               go_ret2
               exact ⟨ret_exp (a := ⟨#[]⟩) (by rw [(exp_none HN.out).1]) (exp_none HN.out).2.symm, TT.out.below⟩
             · have d3 : decide ((out.length : Int) < (s[i + 1].toNat : Int)) = false := by simp; omega
               by_cases h4 : 2000 < out.length
               · have d4 : decide ((2000 : Int) < (out.length : Int)) = true := by simp; omega
                 have HN := Lib.hid (HD.out.symm.trans (dec_bad (s := s.data.toList) (out := out) (i := i) (Nat.lt_of_lt_of_eq hlt HLL.out.symm) HNB.out (.inr (.inr (.inr (.inr h4))))))
                 clear hb1
                 go_wp2_with (first
                   | (go_at_call 61; refine (specIn_no _ _ _ _ hnb).mono ?_; rintro e w1 ⟨rfl, rfl⟩))
                 go_ret2
                 exact ⟨ret_exp (a := ⟨#[]⟩) (by rw [(exp_none HN.out).1]) (exp_none HN.out).2.symm, TT.out.below⟩
               · have d4 : decide ((2000 : Int) < (out.length : Int)) = false := by simp; omega
                 have HD2 := Lib.hid (show decFrom s.data.toList (i + 2) (copyOut out s[i + 1].toNat (s[i].toNat - 124)) = decFrom s.data.toList 0 [] from by
                   rw [← HS1.out]
                   exact (dec_copy (s := s.data.toList) (out := out) (i := i) (Nat.lt_of_lt_of_eq hlt HLL.out.symm) HNB.out (by
                     rw [HS1.out]
                     rintro (h | h | h | h | h)
                     · exact HH0.out h
                     · have := HLL.out; omega
                     · exact HH2.out h
                     · exact h3 h
                     · exact h4 h)).symm.trans HD.out)
                 clear hb1
                 have HCELL' := HCELL
                 clear HCELL
                 go_wp2_with (first
                   | (go_at_call 61; refine (specIn_no _ _ _ _ hnb).mono ?_; rintro e w1 ⟨rfl, rfl⟩))
                 clear d0 d1 d2 d3 d4
                 go_loopw [4, 7] (fun v kk wi => ∃ k : Nat, k ≤ s[i].toNat - 124 ∧ kk = .int .i64 k ∧ BRow w wi v (copyOut out s[i + 1].toNat k)) (fun _ kk _ => s[i].toNat - 124 - (intOf kk).toNat)
                 case atStart => exact ⟨0, by omega, rfl, TT.out⟩
                 case round =>
                   obtain ⟨k, hk, rfl, t⟩ := hrel
                   have hxl := copyOut_len out s[i + 1].toNat k
                   obtain ⟨X, hX⟩ : ∃ X, copyOut out s[i + 1].toNat k = X := ⟨_, rfl⟩
                   have hX1 : copyOut out s[i + 1].toNat (k + 1) = X ++ [X.getD (X.length - s[i + 1].toNat) 0] := by rw [copyOut, hX]
                   rw [hX] at t hxl
                   have HX := Lib.hid hX
                   have HX1 := Lib.hid hX1
                   clear hX hX1
                   have TX := Lib.hid t
                   obtain ⟨a', c', rfl, hcell⟩ := t.form
                   clear t
                   have x1 : s[i + 1].toNat ≤ X.length := by omega
                   have x2 : X.length ≤ 2131 := by omega
                   have HXL := Lib.hid hxl
                   clear hxl
                   by_cases hkl : k < s[i].toNat - 124
                   · have k1 : (k : Int) < (s[i].toNat : Int) - 124 := by omega
                     obtain ⟨g, rfl, hc, hcell⟩ := hcell (X.length - s[i + 1].toNat) (by omega)
                     obtain ⟨y, hy⟩ : ∃ y, X.getD (X.length - s[i + 1].toNat) 0 = y := ⟨_, rfl⟩
                     rw [hy] at hcell HX1
                     clear hy
                     unfold u8v at hcell
                     have x3 : ((X.length : Int) - (s[i + 1].toNat : Int)).toNat = X.length - s[i + 1].toNat := by omega
                     have x4 : (X.length : Int) - (s[i + 1].toNat : Int) < (X.length : Int) := by omega
                     have x5 : (s[i + 1].toNat : Int) ≤ (X.length : Int) := by omega
                     have x6 : IntKind.i64.wrap ((X.length : Int) - (s[i + 1].toNat : Int)) = (X.length : Int) - (s[i + 1].toNat : Int) := IntWalk.i64_in _ (by omega)
                     go_wp2_with (at_builtin; refine wp_pushB y rfl rfl _ _ rfl rfl rfl TX.out (by omega) ?_; intro g2 c2 w2 t2; have T2 := Lib.hid t2; clear t2)
                     go_roundw
                     case rel => exact ⟨k + 1, by omega, by go_num, by rw [HX1.out]; exact T2.out⟩
                     case measure => simp [intOf]; omega
                   · obtain rfl : k = s[i].toNat - 124 := by omega
                     have k1 : ((s[i].toNat - 124 : Nat) : Int) = (s[i].toNat : Int) - 124 := by omega
                     clear hcell
                     go_wp2
                     go_roundw
                     case rel => exact ⟨i + 2, X, by omega, by go_num, by have := HXL.out; omega, TX.out, by rw [← HX.out]; exact HD2.out⟩
                     case measure => simp [intOf]; omega
         · have d1 : decide ((s.size : Int) ≤ (i : Int) + 1) = true := by simp; omega
           have HN := Lib.hid (HD.out.symm.trans (dec_bad (s := s.data.toList) (out := out) (i := i) (Nat.lt_of_lt_of_eq hlt HLL.out.symm) HNB.out (.inr (.inl (by rw [HLL.out]; omega)))))
           clear hb1
           go_wp2_with (first
             | (go_at_call 61; refine (specIn_no _ _ _ _ hnb).mono ?_; rintro e w1 ⟨rfl, rfl⟩))
           go_ret2
           exact ⟨ret_exp (a := ⟨#[]⟩) (by rw [(exp_none HN.out).1]) (exp_none HN.out).2.symm, TT.out.below⟩
   · obtain rfl : i = s.size := by omega
     have HEND := Lib.hid (HD.out.symm.trans (dec_end (s := s.data.toList) (out := out) (i := s.size) (by rw [HLL.out]; omega)))
     obtain ⟨n, c2, a2, hv, hcv⟩ := brow_conv t
     cases hv
     obtain ⟨O, hO⟩ : ∃ O : ByteArray, (⟨out.toArray⟩ : ByteArray) = O := ⟨_, rfl⟩
     rw [hO] at hcv
     have HOD := Lib.hid (show O.data.toList = out by rw [← hO])
     clear t
     go_wp2_with fail
     refine (specCompress O _).mono ?_
     rw [HOD.out]
     obtain ⟨C, hC⟩ : ∃ C : ByteArray, (⟨(compress out).toArray⟩ : ByteArray) = C := ⟨_, rfl⟩
     have HCD := Lib.hid (show C.data.toList = compress out by rw [← hC])
     unfold PackOut
     rw [hC]
     rintro e w1 ⟨rfl, hb1⟩
     have HB1 := Lib.hid (TT.out.below.trans (hb1.mono TT.out.below.size))
     have T1 := Lib.hid (TT.out.later hb1)
     clear hb1
     have hcv1 := T1.out.str2
     rw [hO] at hcv1
     clear hO hC
     by_cases hq : C = s
     · subst hq
       have hq1 := ne_false C
       have HY := Lib.hid (exp_yes HEND.out HCD.out.symm)
       go_wp2_with fail
       go_ret2
       exact ⟨ret_exp (bytes_ext (by rw [HOD.out, HY.out.1])) HY.out.2.symm, HB1.out⟩
     · have hq1 : (!C.toList == s.toList) = true := ne_true (fun h => hq (bytes_ext h))
       have HY := Lib.hid (exp_no HEND.out (fun h => hq (bytes_ext (HCD.out.trans h))))
       go_wp2_with fail
       go_ret2
       exact ⟨ret_exp (a := ⟨#[]⟩) (by rw [HY.out.1]) HY.out.2.symm, HB1.out⟩
theorem Cel5O.below_to {w w' : World} {g m : Nat} {y : Cel} (h : Cel5O w g m y) (hb : Below w.heap.size w w') : Cel5O w' g m y := h.below hb
def nameOf (x : Cel) : ByteArray := (x.row ++ ⟨#[0]⟩) ++ x.col
theorem name_key (x : Cel) : (nameOf x).data.toList = nameKey x := by
 unfold nameOf nameKey
 simp only [ByteArray.data_append, Array.toList_append]
 simp
set_option maxHeartbeats 1000000 in
theorem specConfigOk (e s : Int) (p : Bool) (w : World) :
   Calls Tryz.prog 18 #[.agg #[.int .i64 e, .int .i64 s, .bool p]] w fun r w' => r = .returned (.bool (confOk ⟨e, s, p⟩)) ∧ Below w.heap.size w w' := by
 have B0 := Lib.hid ((Below.refl w.heap.size w).alloc (Nat.le_refl _) (.cells #[.int .i64 e, .int .i64 s, .bool p] 26))
 unfold confOk
 by_cases h1 : 1 ≤ e ∧ e ≤ 16
 · by_cases h2 : 1 ≤ s ∧ s ≤ 50
   · go_enter Tryz.func18, Tryz.ntmps18
     go_wp2_with fail
     refine (specIn_yes e 1 16 _ h1.1 h1.2).mono ?_
     rintro r w1 ⟨rfl, rfl⟩
     go_wp2_with fail
     refine (specIn_yes s 1 50 _ h2.1 h2.2).mono ?_
     rintro r w1 ⟨rfl, rfl⟩
     go_wp2
     go_ret
     exact ⟨ret_bool (by simp [h1.1, h1.2, h2.1, h2.2]), B0.out⟩
   · go_enter Tryz.func18, Tryz.ntmps18
     go_wp2_with fail
     refine (specIn_yes e 1 16 _ h1.1 h1.2).mono ?_
     rintro r w1 ⟨rfl, rfl⟩
     go_wp2_with fail
     refine (specIn_no s 1 50 _ (by omega)).mono ?_
     rintro r w1 ⟨rfl, rfl⟩
     go_wp2
     go_ret
     refine ⟨ret_bool ?_, B0.out⟩
     symm
     rcases (show s < 1 ∨ 50 < s by omega) with h | h
     · rw [show decide (1 ≤ s) = false from decide_eq_false (by omega)]; simp
     · rw [show decide (s ≤ 50) = false from decide_eq_false (by omega)]; simp
 · go_enter Tryz.func18, Tryz.ntmps18
   go_wp2_with fail
   refine (specIn_no e 1 16 _ (by omega)).mono ?_
   rintro r w1 ⟨rfl, rfl⟩
   go_wp2
   go_ret
   refine ⟨ret_bool ?_, B0.out⟩
   symm
   rcases (show e < 1 ∨ 16 < e by omega) with h | h
   · rw [show decide (1 ≤ e) = false from decide_eq_false (by omega)]; simp
   · rw [show decide (e ≤ 16) = false from decide_eq_false (by omega)]; simp

set_option maxHeartbeats 2000000 in
set_option maxRecDepth 100000 in
theorem specNames (a : Option Addr) (n c : Nat) (xs : List Cel) (hn : n ≤ 1000) (hs : ∀ x ∈ xs, x.row.size ≤ 1000000 ∧ x.col.size ≤ 1000000) (w : World) (h : CelRowO w a n c xs) :
   Calls Tryz.prog 59 #[.slice a n c] w fun e w' => ∃ v, e = .returned v ∧ OwnS w.heap.size w' v (xs.map nameOf) ∧ Below w.heap.size w w' := by
 have HR := Lib.hid h
 have HS := Lib.hid hs
 have hnc := h.2.1
 have O0 := Lib.hid (owns_made w)
 have B0 := Lib.hid ((Below.refl w.heap.size w).alloc (Nat.le_refl _) (.cells #[] 9))
 clear h hs
 go_enter Tryz.func59, Tryz.ntmps59
 go_wp2_with fail
 go_loopw [3, 4] (fun vv ii wr => ∃ i : Nat, i ≤ n ∧ ii = .int .i64 i ∧ Hid (OwnS w.heap.size wr vv ((xs.take i).map nameOf) ∧ Below w.heap.size w wr)) (fun _ ii _ => n - (intOf ii).toNat)
 case atStart => exact ⟨0, Nat.zero_le _, rfl, ⟨O0.out, B0.out⟩⟩
 case round =>
   obtain ⟨i, hi, rfl, HX⟩ := hrel
   obtain ⟨ad, cp, hv⟩ := HX.out.1.form
   have hlen : ((xs.take i).map nameOf).length = i := by rw [List.length_map, List.length_take, HR.out.1]; omega
   rw [hlen] at hv
   subst hv
   have HL := Lib.hid hlen
   clear hlen
   by_cases hlt : i < n
   · obtain ⟨⟨R, C, t, G, V⟩, hy⟩ : ∃ y, xs[i]? = some y := ⟨_, List.getElem?_eq_getElem (by rw [HR.out.1]; exact hlt)⟩
     obtain ⟨g, off, hag, k5⟩ := HR.out.2.2 i _ hy
     subst hag
     have hsz := HS.out _ (List.mem_of_getElem? hy)
     have hR : R.size ≤ 1000000 := hsz.1
     have hC : C.size ≤ 1000000 := hsz.2
     have CS := Lib.hid k5
     have K5 := Lib.hid (k5.below HX.out.2)
     have HT := Lib.hid (show (xs.take (i + 1)).map nameOf = (xs.take i).map nameOf ++ [(R ++ ⟨#[0]⟩) ++ C] by rw [take_next hy, List.map_append]; rfl)
     have i1 : (i : Int) < (n : Int) := by omega
     have i0 : (0 : Int) ≤ (i : Int) := by omega
     have q1 : ¬ 9223372036854775807 < R.size + 1 := by omega
     have q2 : ¬ 9223372036854775807 < R.size + 1 + C.size := by omega
     clear hy k5 hsz
     go_wp2_with fail
     refine wp_region_held_drew (S := fun w' => Cel5O w' g (off + i * 5) ⟨R, C, t, G, V⟩) (by kernel_rfl) K5.out (fun hHeld => ?_)
     refine tk 0 (some 12) ?_ ?hy hHeld ?_
     case hy => (intro w' hS; clear hS; go_simp <;> with_reducible rfl)
     simp only [Act.put, sA, sB, sC]
     refine tk 1 (some 13) ?_ ?hy hHeld ?_
     case hy => (intro w' hS; clear hS; go_simp <;> with_reducible rfl)
     simp only [Act.put, sA, sB, sC]
     refine tk 2 (some 14) ?_ ?hy hHeld ?_
     case hy => (intro w' hS; clear hS; go_simp <;> with_reducible rfl)
     simp only [Act.put, sA, sB, sC]
     refine tk 3 (some 15) ?_ ?hy hHeld ?_
     case hy => (intro w' hS; clear hS; go_simp <;> with_reducible rfl)
     simp only [Act.put, sA, sB, sC]
     refine tk 4 (some 16) ?_ ?hy hHeld ?_
     case hy => (intro w' hS; clear hS; go_simp <;> with_reducible rfl)
     simp only [Act.put, sA, sB, sC]
     refine tk 5 (some 17) ?_ ?hy hHeld ?_
     case hy => (intro w' hS; unfold Cel5O at hS; obtain ⟨s0, s1, s2, s3, s4⟩ := hS; go_simp <;> with_reducible rfl)
     simp only [Act.put, sA, sB, sC]
     refine tk 6 (some 18) ?_ ?hy hHeld ?_
     case hy => (intro w' hS; clear hS; go_simp <;> with_reducible rfl)
     simp only [Act.put, sA, sB, sC]
     refine tk 7 (some 19) ?_ ?hy hHeld ?_
     case hy => (intro w' hS; clear hS; go_simp <;> with_reducible rfl)
     simp only [Act.put, sA, sB, sC]
     refine tk 8 (some 20) ?_ ?hy hHeld ?_
     case hy => (intro w' hS; clear hS; go_simp <;> with_reducible rfl)
     simp only [Act.put, sA, sB, sC]
     refine tk 9 (some 21) ?_ ?hy hHeld ?_
     case hy => (intro w' hS; clear hS; go_simp <;> with_reducible rfl)
     simp only [Act.put, sA, sB, sC]
     refine tk 10 (some 22) ?_ ?hy hHeld ?_
     case hy => (intro w' hS; clear hS; go_simp <;> with_reducible rfl)
     simp only [Act.put, sA, sB, sC]
     refine tk 11 (some 23) ?_ ?hy hHeld ?_
     case hy => (intro w' hS; unfold Cel5O at hS; obtain ⟨s0, s1, s2, s3, s4⟩ := hS; go_simp <;> with_reducible rfl)
     simp only [Act.put, sA, sB, sC]
     refine tk 12 (some 24) ?_ ?hy hHeld ?_
     case hy => (intro w' hS; clear hS; go_simp <;> with_reducible rfl)
     simp only [Act.put, sA, sB, sC]
     refine wpAnyH_ready (rs := [13]) (by kernel_rfl) (by simp) ?_
     refine AllReadyH.cons rfl (fun K hK => ?_) AllReadyH.nil
     go_simp
     have N6 := Lib.hid (new_text wr.drew ((R ++ ⟨#[0]⟩) ++ C))
     have O6 := Lib.hid ((show OwnS w.heap.size wr.drew _ _ from HX.out.1.below (below_draws 1)).new (.cells #[.string ((R ++ ⟨#[0]⟩) ++ C)] 9))
     have B6 := Lib.hid ((show Below w.heap.size w wr.drew from HX.out.2.trans (below_draws 1)).alloc (by have := HX.out.2.size; simpa using this) (.cells #[.string ((R ++ ⟨#[0]⟩) ++ C)] 9))
     refine hK.out _ _ ((show Cel5O wr.drew g (off + i * 5) ⟨R, C, t, G, V⟩ from K5.out.below (below_draws 1)).below ((Below.refl _ _).alloc (Nat.le_refl _) _)) (fun hHeld => ?_)
     clear hK K
     refine wpAnyH_ready (rs := [14]) (by kernel_rfl) (by simp) ?_
     refine AllReadyH.cons rfl (fun K hK => ?_) AllReadyH.nil
     rw [if_pos (by rfl)]
     refine op_pushW [(R ++ ⟨#[0]⟩) ++ C] _ _ rfl rfl rfl rfl N6.out O6.out B6.out.size (by rw [HL.out]; simp; omega) ?_
     intro v7 w7 o7 gr7
     have L7 := Lib.hid (B6.out.grown gr7 B6.out.size (fun q e => (O6.out.lt e).1))
     have O7 := Lib.hid o7
     clear o7 gr7
     refine hK.out _ _ (CS.out.below_to L7.out) (fun hHeld => ?_)
     clear hK K
     refine tk 15 (some 3) ?_ ?hy hHeld ?_
     case hy => (intro w' hS; clear hS; go_simp <;> with_reducible rfl)
     simp only [Act.put, List.setIfInBounds_toArray]
     refine wpAnyH_done (by kernel_rfl) ?_ _
     go_wp2
     go_roundw
     case rel => exact ⟨i + 1, by omega, by go_num, ⟨by rw [HT.out]; exact O7.out, L7.out⟩⟩
     case measure => simp [intOf]; omega
   · obtain rfl : i = n := by omega
     have HE := Lib.hid (show xs.take i = xs from List.take_of_length_le (by rw [HR.out.1]; omega))
     go_wp2
     go_ret
     exact ⟨_, rfl, by have := HX.out.1; rw [HE.out] at this; exact this, HX.out.2⟩
def footOf (xs : List Cel) (c : Conf) : List UInt8 := footB (outB xs c).length (topB xs c).length (filB xs).length xs.length c ++ magicB
theorem footOf_len (xs : List Cel) (c : Conf) : (footOf xs c).length = 38 := by unfold footOf; rw [List.length_append, foot_len]; rfl
theorem table_split (xs : List Cel) (c : Conf) : tableB xs c = outB xs c ++ (topB xs c ++ (filB xs ++ footOf xs c)) := rfl
theorem table_tail (xs : List Cel) (c : Conf) : (tableB xs c).drop ((tableB xs c).length - 38) = footOf xs c := by
 have e : tableB xs c = (outB xs c ++ (topB xs c ++ filB xs)) ++ footOf xs c := by rw [table_split]; simp
 rw [e, List.length_append, footOf_len, Nat.add_sub_cancel, List.drop_left]
theorem footOf_told {xs ys : List Cel} {c d : Conf} (hx : tabOk xs c) (hy : tabOk ys d) (h : footOf xs c = footOf ys d) :
   (outB xs c).length = (outB ys d).length ∧ (topB xs c).length = (topB ys d).length ∧ (filB xs).length = (filB ys).length ∧ xs.length = ys.length ∧ c = d := by
 obtain ⟨x1, x2, x3, _⟩ := tab_bounds hx
 obtain ⟨y1, y2, y3, _⟩ := tab_bounds hy
 have x4 := hx.1
 have y4 := hy.1
 unfold footOf at h
 obtain ⟨h3, _⟩ := List.append_inj h (by rw [foot_len, foot_len])
 exact foot_told h3 (by omega) (by omega) (by omega) (by omega) (by omega) (by omega) (by omega) (by omega) hx.2.2.1 hy.2.2.1
theorem set_far (p q : List UInt8) (n : Nat) (v : UInt8) (h : p.length ≤ n) : (p ++ q).set n v = p ++ q.set (n - p.length) v := by rw [List.set_append, if_neg (by omega)]
theorem set_near (p q : List UInt8) (n : Nat) (v : UInt8) (h : n < p.length) : (p ++ q).set n v = p.set n v ++ q := by rw [List.set_append, if_pos h]
theorem drop_set_lt (l : List UInt8) (n m : Nat) (v : UInt8) (h : n < m) : (l.set n v).drop m = l.drop m := by
 rw [List.drop_set, if_pos h]
theorem wrap_not {a b : List UInt8} {p q : Bool} {n : Nat} {v : UInt8} (hne : wrapB a p ≠ []) (hb : wrapB b q ≠ []) (hn : n < (wrapB a p).length) (hv : (wrapB a p).getD n 0 ≠ v) : wrapB b q ≠ (wrapB a p).set n v := by
 intro e
 have h1 := unwrap_changed p (wrap_some hne) n v hn hv
 have h2 := unwrap_wrap q (wrap_some hb)
 rw [e, h1] at h2
 cases h2
theorem getD_left (p q : List UInt8) (n : Nat) (h : n < p.length) : (p ++ q).getD n 0 = p.getD n 0 := by
 rw [List.getD_eq_getElem?_getD, List.getD_eq_getElem?_getD, List.getElem?_append_left h]
theorem getD_right (p q : List UInt8) (n : Nat) (h : p.length ≤ n) : (p ++ q).getD n 0 = q.getD (n - p.length) 0 := by
 rw [List.getD_eq_getElem?_getD, List.getD_eq_getElem?_getD, List.getElem?_append_right h]
theorem fil_ne (xs : List Cel) (h : xs.length ≤ 60) : filB xs ≠ [] := by
 intro e
 have h2 := filter_len (keys := xs.map nameKey) (by rw [List.length_map]; omega)
 have h1 : (filB xs).length = (filterB (xs.map nameKey)).length + 5 := by
   unfold filB
   refine wrap_false ?_
   rw [h2]
   have := fsize_le (n := (xs.map nameKey).length) (by rw [List.length_map]; omega)
   omega
 rw [e] at h1
 simp at h1
theorem out_same_len {xs ys : List Cel} {c : Conf} {n : Nat} (h : ∀ j, j < n → (blkAt xs c j).length = (blkAt ys c j).length) : ∀ k, k ≤ n → (outTo xs c k).length = (outTo ys c k).length
 | 0, _ => rfl
 | k + 1, hk => by rw [outTo, outTo, List.length_append, List.length_append, out_same_len h k (by omega), h k (by omega)]
theorem in_block (xs : List Cel) (c : Conf) (n : Nat) : ∀ k, n < (outTo xs c k).length → ∃ j, j < k ∧ (outTo xs c j).length ≤ n ∧ n < (outTo xs c (j + 1)).length
 | 0, h => by simp [outTo] at h
 | k + 1, h => by
   by_cases h2 : n < (outTo xs c k).length
   · obtain ⟨j, h3, h4⟩ := in_block xs c n k h2
     exact ⟨j, by omega, h4⟩
   · exact ⟨k, by omega, by omega, h⟩
theorem spoilt {xs ys : List Cel} {c d : Conf} (hx : tabOk xs c) (hy : tabOk ys d) (n : Nat) (v : UInt8) (hn : n + 38 < (tableB xs c).length) (hv : (tableB xs c).getD n 0 ≠ v) : tableB ys d ≠ (tableB xs c).set n v := by
 intro h
 have hl : (tableB ys d).length = (tableB xs c).length := by rw [h, List.length_set]
 have ht := table_tail ys d
 rw [hl, h, drop_set_lt _ _ _ _ (by omega), table_tail] at ht
 obtain ⟨g1, g2, g3, g4, rfl⟩ := footOf_told hx hy ht
 have hlen := table_len xs c
 rw [table_split, table_split] at h
 rw [table_split] at hv
 by_cases h1 : n < (outB xs c).length
 · rw [set_near _ _ _ _ h1] at h
   rw [getD_left _ _ _ h1] at hv
   obtain ⟨e1, e2⟩ := List.append_inj h (by rw [List.length_set, g1])
   obtain ⟨e3, _⟩ := List.append_inj e2 g2.symm
   have hN : nBlk ys c = nBlk xs c := by unfold nBlk; rw [g4]
   have hi : idxTo xs c (nBlk xs c) = idxTo ys c (nBlk xs c) := by
     unfold topB at e3
     have h2 := hx.2.2.2.2
     unfold topB at h2
     rw [hN] at e3
     exact wrap_inj e3.symm h2
   rw [idx_flat, idx_flat] at hi
   have hb := (idx_told (xs := xs) (ys := ys) (c := c) (List.range (nBlk xs c)) (r := []) (r' := []) (by rw [hi])).1
   have hb' : ∀ j, j < nBlk xs c → (blkAt xs c j).length = (blkAt ys c j).length := fun j hj => hb j (List.mem_range.2 hj)
   unfold outB at h1 e1 hv
   rw [hN] at e1
   obtain ⟨j, j1, j2, j3⟩ := in_block xs c n _ h1
   obtain ⟨r, hr⟩ := out_more xs c (show j + 1 ≤ nBlk xs c by omega)
   obtain ⟨r', hr'⟩ := out_more ys c (show j + 1 ≤ nBlk xs c by omega)
   have s1 := out_same_len hb' j (by omega)
   have s2 := out_same_len hb' (j + 1) (by omega)
   rw [hr, set_near _ _ _ _ j3, hr'] at e1
   rw [hr, getD_left _ _ _ j3] at hv
   obtain ⟨e4, _⟩ := List.append_inj e1 (by rw [List.length_set, s2])
   rw [outTo, outTo, set_far _ _ _ _ j2] at e4
   rw [outTo, getD_right _ _ _ j2] at hv
   obtain ⟨_, e5⟩ := List.append_inj e4 s1.symm
   rw [outTo, List.length_append] at j3
   unfold blkAt at e5 hv
   have k1 := hx.2.2.2.1 j j1
   have k2 := hy.2.2.2.1 j (by omega)
   unfold blkAt at k1 k2 j3
   exact wrap_not k1 k2 (by omega) hv e5
 · rw [set_far _ _ _ _ (by omega)] at h
   rw [getD_right _ _ _ (by omega)] at hv
   obtain ⟨_, h⟩ := List.append_inj h g1.symm
   obtain ⟨m, hm⟩ : ∃ m, n - (outB xs c).length = m := ⟨_, rfl⟩
   rw [hm] at h hv
   by_cases h2 : m < (topB xs c).length
   · rw [set_near _ _ _ _ h2] at h
     rw [getD_left _ _ _ h2] at hv
     obtain ⟨e1, _⟩ := List.append_inj h (by rw [List.length_set, g2])
     have k1 := hx.2.2.2.2
     have k2 := hy.2.2.2.2
     unfold topB at e1 k1 k2 h2 hv
     exact wrap_not k1 k2 h2 hv e1
   · rw [set_far _ _ _ _ (by omega)] at h
     rw [getD_right _ _ _ (by omega)] at hv
     obtain ⟨_, h⟩ := List.append_inj h g2.symm
     have h3 : m - (topB xs c).length < (filB xs).length := by omega
     rw [set_near _ _ _ _ h3] at h
     rw [getD_left _ _ _ h3] at hv
     obtain ⟨e1, _⟩ := List.append_inj h (by rw [List.length_set, g3])
     have k1 := fil_ne xs hx.1
     have k2 := fil_ne ys hy.1
     unfold filB at e1 k1 k2 h3 hv
     exact wrap_not k1 k2 h3 hv e1
theorem no_first {xs ys : List Cel} {c d : Conf} (hx : tabOk xs c) (hy : tabOk ys d) : tableB ys d ≠ (tableB xs c).drop 1 := by
 intro h
 have h1 := table_len xs c
 have h2 := table_len ys d
 have hl : (tableB ys d).length = (tableB xs c).length - 1 := by rw [h, List.length_drop]
 have ht := table_tail ys d
 rw [hl, h, List.drop_drop, show 1 + ((tableB xs c).length - 1 - 38) = (tableB xs c).length - 38 by omega, table_tail] at ht
 obtain ⟨g1, g2, g3, _⟩ := footOf_told hx hy ht
 omega
set_option maxHeartbeats 1000000 in
theorem implConfigOk (e s : Int) (p : Bool) (w : World) :
   Calls Tryz.prog 17 #[.agg #[.int .i64 e, .int .i64 s, .bool p]] w fun r w' => r = .returned (.bool (confOk ⟨e, s, p⟩)) ∧ Below w.heap.size w w' := by
 have B0 := Lib.hid ((Below.refl w.heap.size w).alloc (Nat.le_refl _) (.cells #[.int .i64 e, .int .i64 s, .bool p] 26))
 unfold confOk
 by_cases h1 : 1 ≤ e
 · by_cases h2 : e ≤ 16
   · by_cases h3 : 1 ≤ s
     · go_enter Tryz.func17, Tryz.ntmps17
       go_wp2
       go_ret
       exact ⟨ret_bool (by simp [h1, h2, h3]), B0.out⟩
     · go_enter Tryz.func17, Tryz.ntmps17
       go_wp2
       go_ret
       exact ⟨ret_bool (by rw [show decide (1 ≤ s) = false from decide_eq_false (by omega)]; simp), B0.out⟩
   · go_enter Tryz.func17, Tryz.ntmps17
     go_wp2
     go_ret
     exact ⟨ret_bool (by rw [show decide (e ≤ 16) = false from decide_eq_false (by omega)]; simp), B0.out⟩
 · go_enter Tryz.func17, Tryz.ntmps17
   go_wp2
   go_ret
   exact ⟨ret_bool (by rw [show decide (1 ≤ e) = false from decide_eq_false (by omega)]; simp), B0.out⟩
theorem cfg_three {w : World} {g T : Nat} {a b c : Value} (h : w.heap[g]? = some (.cells #[a, b, c] T (0, 0))) : w.cell? ⟨g, 0, none⟩ = some a ∧ w.cell? ⟨g, 1, none⟩ = some b ∧ w.cell? ⟨g, 2, none⟩ = some c :=
 ⟨by simp [World.cell?, h], by simp [World.cell?, h], by simp [World.cell?, h]⟩
end Go.Proofs.YtkomnnijnggbpaaGreatDoor
