/- Contract of the program's GetFix. -/
import Derived.Test.YtkomnnijnggbpaaGreatDoorZ0
import Derived.Laws.Bits128
import Derived.Deep.RegionHeld3
import Derived.Lib.Bytealg
import Derived.Test.YtkomnnijnggbpaaGreatDoorProg
import Derived.Laws.IdiomStrings
import Derived.BigQuiet
import Derived.Laws.AppendOwn
import Derived.RangeFuncBox
import Derived.Laws.CopyRow
import Derived.RangeFuncNested
import Derived.Scope
import Derived.ControlIn
import Derived.WalkMore
import Derived.Laws.BitsAllLaws
import Derived.StillTailTactics
import Derived.RangeFuncBound
import Derived.RangeFuncCalls
import Derived.RangeFuncLeaves
import Derived.Shelf.Abstract
import Derived.Shelf.RegionOpen
import Derived.WalkKit
import Derived.OwnWalkIn
import Derived.TacticsInMore
import Derived.LoopNIn
import Derived.LoopIn
import Derived.Laws.MakeOwn
import Derived.OrdersIn
import Derived.TacticsIn
import Derived.Deep.RegionHeld
namespace Go.Proofs.YtkomnnijnggbpaaGreatDoor
open Go.RowKit
set_option linter.unusedVariables false

theorem getFix_no {l : List UInt8} {a b : Int} (h : b < 1 ∨ 4 < b ∨ a < 0 ∨ l.length < a ∨ l.length - a < b) : getFix l a b = -1 := by unfold getFix; rw [if_neg (by omega)]
theorem getFix_yes {l : List UInt8} {a b : Nat} (h1 : 1 ≤ b) (h4 : b ≤ 4) (h : a + b ≤ l.length) : getFix l a b = fixVal ((l.drop a).take b) := by
 unfold getFix; rw [if_pos (by omega)]; simp

def IntIs (w : World) (n : Int) (e : Ending) (w' : World) : Prop := e = .returned (.int .i64 n) ∧ Below w.heap.size w w'

theorem below_rd {w w1 : World} {o : Obj} (g : (w.alloc o).grownBy w1 (some w.heap.size)) : Below w.heap.size w w1 := below_new (World.grownBy_alloc w o none) g

set_option maxHeartbeats 400000 in
theorem implGetFix (s : ByteArray) (a b : Int) (w : World) (hs : s.size ≤ maxLen) :
   Calls Tryz.prog 156 #[.string s, .int .i64 a, .int .i64 b] w (IntIs w (getFix s.data.toList a b)) := by
 have hl : s.data.toList.length = s.size := by simp
 by_cases hn : b < 1 ∨ 4 < b ∨ a < 0 ∨ s.size < a ∨ s.size - a < b
 · have HR := Lib.hid (getFix_no (l := s.data.toList) (by rw [hl]; exact hn))
   have HN := Lib.hid hn
   clear hn hl
   go_enter Tryz.func156, Tryz.ntmps156
   go_wp2_with fail
   refine (takeFix_no _ s a b _ (rd_new w s a) hs HN.out).mono ?_
   rintro e w1 ⟨rfl, m, rfl⟩
   go_wp2
   go_ret
   exact ⟨ret_int HR.out.symm, ((Below.refl _ _).alloc (Nat.le_refl _) _).trans (below_draws _)⟩
 · obtain ⟨a, rfl⟩ := Int.eq_ofNat_of_zero_le (by omega : 0 ≤ a)
   obtain ⟨b, rfl⟩ := Int.eq_ofNat_of_zero_le (by omega : 0 ≤ b)
   have h1 : 1 ≤ b := by omega
   have h4 : b ≤ 4 := by omega
   have h5 : a + b ≤ s.size := by omega
   have HR := Lib.hid (getFix_yes (l := s.data.toList) h1 h4 (by rw [hl]; exact h5))
   clear hn hl
   go_enter Tryz.func156, Tryz.ntmps156
   go_wp2_with fail
   refine (takeFix_yes _ s a b _ (rd_new w s a) hs h1 h4 h5).mono ?_
   rintro e w1 ⟨rfl, hr, hg⟩
   have HG := Lib.hid hg
   clear hr hg
   go_wp2
   go_ret
   exact ⟨ret_int HR.out.symm, below_rd HG.out⟩
def TextOut (w : World) (l : List UInt8) (e : Ending) (w' : World) : Prop := e = .returned (.string ⟨l.toArray⟩) ∧ Below w.heap.size w w'

def Left (n m : Nat) (l : List UInt8) : Prop := varB n = l ++ varB m ∧ m ≤ n
theorem Left.next {n m : Nat} {l : List UInt8} (h : Left n m l) (hm : 128 ≤ m) : Left n (m / 128) (l ++ [UInt8.ofNat (m % 128 + 128)]) := by
 refine ⟨?_, by have := h.2; omega⟩
 rw [h.1, var_step hm]; simp
theorem Left.last {n m : Nat} {l : List UInt8} (h : Left n m l) (hm : m < 128) : l ++ [UInt8.ofNat m] = varB n := by rw [h.1, var_small hm]
theorem Left.len {n m : Nat} {l : List UInt8} (h : Left n m l) (hn : (n : Int) ≤ 4611686018427387903) : l.length ≤ 9 := by
 have h9 := var_len_le 8 n (by omega)
 rw [h.1, List.length_append] at h9
 omega
theorem putVar_no {n : Int} (h : n < 0 ∨ 4611686018427387903 < n) : putVar n = [] := by unfold putVar; rw [if_neg (by omega)]

theorem group_moreI (m : Int) (h : 0 ≤ m) : m % 128 + 128 = ((UInt8.ofNat (m.toNat % 128 + 128)).toNat : Int) := by rw [UInt8.toNat_ofNat']; omega
theorem group_lastI (m : Int) (h0 : 0 ≤ m) (h : m < 128) : m = ((UInt8.ofNat m.toNat).toNat : Int) := by rw [UInt8.toNat_ofNat']; omega

set_option maxHeartbeats 400000 in
theorem implPutVar_in (n : Int) (w : World) (h0 : 0 ≤ n) (hn : n ≤ 4611686018427387903) :
   Calls Tryz.prog 93 #[.int .i64 n] w (TextOut w (varB n.toNat)) := by
 go_enter Tryz.func93, Tryz.ntmps93
 go_wp2
 go_loopw [0, 3] (fun i v wr => ∃ (m : Int) (l : List UInt8), 0 ≤ m ∧ m ≤ n ∧ Left n.toNat m.toNat l ∧ i = .int .i64 m ∧ BRow w wr v l) (fun i _ _ => (intOf i).toNat)
 case atStart => exact ⟨n, [], h0, Int.le_refl _, ⟨rfl, Nat.le_refl _⟩, rfl, brow_nil w⟩
 case round =>
   obtain ⟨m, l, hm0, hm1, hL, rfl, t⟩ := hrel
   have TT := Lib.hid t
   have HL := Lib.hid hL
   have hl := hL.len (by omega)
   clear t hL
   by_cases hlt : 128 ≤ m
   · go_wp2_with (at_builtin; (refine wp_pushB (UInt8.ofNat (m.toNat % 128 + 128)) (group_moreI m hm0) rfl _ _ rfl rfl rfl TT.out (by omega) ?_); intro g2 c2 w2 t2; have T2 := Lib.hid t2; clear t2)
     go_roundw
     case rel =>
       have e : (m / 128).toNat = m.toNat / 128 := by omega
       exact ⟨m / 128, _, by omega, by omega, by rw [e]; exact HL.out.next (by omega), rfl, T2.out⟩
     case measure => simp [intOf]; omega
   · go_wp2_with (at_builtin; (refine wp_pushB (UInt8.ofNat m.toNat) (group_lastI m hm0 (by omega)) rfl _ _ rfl rfl rfl TT.out (by omega) ?_); intro g2 c2 w2 t2; have T2 := Lib.hid t2; have hcv := t2.str (by simp); clear t2)
     go_ret
     exact ⟨ret_text (HL.out.last (by omega)), T2.out.below⟩

theorem implPutVar (n : Int) (w : World) :
   Calls Tryz.prog 93 #[.int .i64 n] w (TextOut w (putVar n)) := by
 by_cases h0 : n < 0
 · go_enter Tryz.func93, Tryz.ntmps93
   go_wp2
   go_ret
   exact ⟨ret_text (a := []) (putVar_no (Or.inl h0)).symm, Below.refl _ _⟩
 · by_cases h1 : 4611686018427387903 < n
   · go_enter Tryz.func93, Tryz.ntmps93
     go_wp2
     go_ret
     exact ⟨ret_text (a := []) (putVar_no (Or.inr h1)).symm, Below.refl _ _⟩
   · have e : putVar n = varB n.toNat := by unfold putVar; rw [if_pos (by omega)]
     rw [e]
     exact implPutVar_in n w (by omega) (by omega)

theorem or_more (m : Int) : bits .or .i64 (bits .and .i64 m 127) 128 = m % 128 + 128 := by
 rw [i64_and127]
 obtain ⟨k, hk⟩ := Int.eq_ofNat_of_zero_le (Int.emod_nonneg m (by omega : (128 : Int) ≠ 0))
 have hl : k < 2 ^ 7 := by omega
 have h2 : 128 + k = 128 ||| k := Nat.two_pow_add_eq_or_of_lt hl 1
 have := i64_or_nat k 128 (by omega) (by omega)
 rw [hk]
 have e : (128 : Int) = ((128 : Nat) : Int) := rfl
 rw [e, this, Nat.or_comm]
 omega

set_option maxHeartbeats 400000 in
theorem specPutVar_in (n : Int) (w : World) (h0 : 0 ≤ n) (hn : n ≤ 4611686018427387903) :
   Calls Tryz.prog 57 #[.int .i64 n] w (TextOut w (varB n.toNat)) := by
 go_enter Tryz.func57, Tryz.ntmps57
 go_wp2_with fail
 refine (specIn_yes _ _ _ _ h0 hn).mono ?_
 rintro e w1 ⟨rfl, rfl⟩
 go_wp2_with fail
 go_loopw [0, 3] (fun i v wr => ∃ (m : Int) (l : List UInt8), 0 ≤ m ∧ m ≤ n ∧ Left n.toNat m.toNat l ∧ i = .int .i64 m ∧ BRow w wr v l) (fun i _ _ => (intOf i).toNat)
 case atStart => exact ⟨n, [], h0, Int.le_refl _, ⟨rfl, Nat.le_refl _⟩, rfl, brow_made w⟩
 case round =>
   obtain ⟨m, l, hm0, hm1, hL, rfl, t⟩ := hrel
   have TT := Lib.hid t
   have HL := Lib.hid hL
   have hl := hL.len (by omega)
   clear t hL
   by_cases hlt : 128 ≤ m
   · go_wp2_with (at_builtin; (refine wp_pushB (UInt8.ofNat (m.toNat % 128 + 128)) (by rw [or_more]; first | exact group_moreI m hm0 | (have := group_moreI m hm0; omega)) rfl _ _ rfl rfl rfl TT.out (by omega) ?_); intro g2 c2 w2 t2; have T2 := Lib.hid t2; clear t2)
     go_roundw
     case rel =>
       have e : (m / 128).toNat = m.toNat / 128 := by omega
       exact ⟨m / 128, _, by omega, by omega, by rw [e]; exact HL.out.next (by omega), rfl, T2.out⟩
     case measure => simp [intOf]; omega
   · go_wp2_with (at_builtin; (refine wp_pushB (UInt8.ofNat m.toNat) (group_lastI m hm0 (by omega)) rfl _ _ rfl rfl rfl TT.out (by omega) ?_); intro g2 c2 w2 t2; have T2 := Lib.hid t2; have hcv := t2.str (by simp); clear t2)
     go_ret
     exact ⟨ret_text (HL.out.last (by omega)), T2.out.below⟩

theorem specPutVar (n : Int) (w : World) :
   Calls Tryz.prog 57 #[.int .i64 n] w (TextOut w (putVar n)) := by
 by_cases h : n < 0 ∨ 4611686018427387903 < n
 · have H := Lib.hid h
   clear h
   go_enter Tryz.func57, Tryz.ntmps57
   go_wp2_with fail
   refine (specIn_no _ _ _ _ H.out).mono ?_
   rintro e w1 ⟨rfl, rfl⟩
   go_wp2
   go_ret
   exact ⟨ret_text (a := []) (putVar_no H.out).symm, Below.refl _ _⟩
 · have e : putVar n = varB n.toNat := by unfold putVar; rw [if_pos (by omega)]
   rw [e]
   exact specPutVar_in n w (by omega) (by omega)
theorem or_group2 (v k c : Nat) (hk : k < 9) (hv : v < 2 ^ (7 * k)) : bits .or .i64 (v : Int) (wrap64 (bits .and .i64 (c : Int) 127 * 2 ^ (7 * k))) = ((v + 2 ^ (7 * k) * (c % 128) : Nat) : Int) := by
 rw [i64_and127]; exact or_group v k c hk hv

theorem part_is (s : ByteArray) (a k : Nat) : (s.extract a (a + k + 1)).data.toList = (s.data.toList.drop a).take (k + 1) := by
 simp only [ByteArray.data_extract, Array.toList_extract, List.extract_eq_take_drop]
 congr 1
 omega

theorem getVar_is {l : List UInt8} {a i : Nat} {c : UInt8} (ha : a ≤ l.length) (h : More (l.drop a) i) (hk : i < 9) (hc : (l.drop a)[i]? = some c) (h1 : c.toNat < 128) :
   getVarAt l a = if putVar (varVal ((l.drop a).take (i + 1))) = (l.drop a).take (i + 1) then some ((l.drop a).take (i + 1)) else none := by
 unfold getVarAt
 rw [if_pos (by omega), Int.toNat_natCast, varTake_found h hk hc h1]
 by_cases hp : putVar (varVal ((l.drop a).take (i + 1))) = (l.drop a).take (i + 1) <;> simp [Option.filter, hp]

set_option maxHeartbeats 1000000 in
set_option maxRecDepth 100000 in
theorem specGetVar_in (s : ByteArray) (a : Nat) (w : World) (hs : s.size ≤ maxLen) (ha : a ≤ s.size) :
   Calls Tryz.prog 113 #[.string s, .int .i64 a] w (VarOut w s.data.toList a) := by
 have hll : s.data.toList.length = s.size := by simp
 have HLL := Lib.hid hll
 unfold maxLen at hs
 clear hll
 go_enter Tryz.func113, Tryz.ntmps113
 go_wp2_with fail
 go_loopw [6, 7] (fun n i wr => wr = w ∧ ∃ k : Nat, k ≤ 9 ∧ a + k ≤ s.size ∧ i = .int .i64 k ∧ n = .int .i64 (varVal ((s.data.toList.drop a).take k) : Nat) ∧ Hid (More (s.data.toList.drop a) k)) (fun _ i _ => 9 - (intOf i).toNat)
 case atStart => exact ⟨rfl, 0, by omega, by omega, rfl, rfl, ⟨Nat.zero_le _, fun c hc => by simp at hc⟩⟩
 case round =>
   obtain ⟨rfl, k, hk, hak, rfl, rfl, HX⟩ := hrel
   by_cases h9 : k < 9
   · by_cases hlt : a + k < s.size
     · have hv := varVal_take_lt (s.data.toList.drop a) k
       have HV := Lib.hid (varVal_take s a k hlt)
       have HO := Lib.hid (or_group2 _ k s[a + k].toNat h9 hv)
       have HC := Lib.hid (drop_at s a k hlt)
       have hb1 := varVal_take_lt63 (s.data.toList.drop a) (k + 1) (by omega)
       have hc := s[a + k].toNat_lt
       have i1 : (a : Int) + (k : Int) < (s.size : Int) := by omega
       have i2 : ((a : Int) + (k : Int)).toNat = a + k := by omega
       have i3 : (a : Int) < (s.size : Int) - (k : Int) := by omega
       clear hv
       rw [← HV.out] at HO
       have ho := HO.out
       obtain ⟨V, eV⟩ : ∃ V : Int, ((varVal ((s.data.toList.drop a).take k) : Nat) : Int) = V := ⟨_, rfl⟩
       rw [eV] at ho ⊢
       obtain ⟨V1, eV1⟩ : ∃ V1 : Int, ((varVal ((s.data.toList.drop a).take (k + 1)) : Nat) : Int) = V1 := ⟨_, rfl⟩
       rw [eV1] at ho hb1
       have EV1 := Lib.hid eV1
       have HB1 := Lib.hid hb1
       clear eV eV1 hb1 HV HO
       by_cases hmore : 128 ≤ s[a + k].toNat
       · have HO := Lib.hid ho
         clear ho
         go_wp2_with fail
         go_roundw
         case rel => exact ⟨trivial, k + 1, by omega, by omega, by go_num, congrArg (Value.int IntKind.i64) (by rw [HO.out, EV1.out]), HX.out.succ HC.out hmore⟩
         case measure => simp [intOf]; omega
       · go_wp2_with fail
         have s0 : (0 : Int) ≤ (a : Int) := by omega
         have s1 : IntKind.i64.wrap ((a : Int) + (k : Int)) = (a : Int) + (k : Int) := IntWalk.i64_in _ (by omega)
         have s2 : IntKind.i64.wrap ((a : Int) + (k : Int) + 1) = (a : Int) + (k : Int) + 1 := IntWalk.i64_in _ (by omega)
         have s3 : (a : Int) ≤ (a : Int) + (k : Int) + 1 := by omega
         have s4 : (a : Int) + (k : Int) + 1 ≤ (s.size : Int) := by omega
         have s5 : ((a : Int) + (k : Int) + 1).toNat = a + k + 1 := by omega
         go_region_held3 (fun w' => True) (exact trivial) (first | (go_at_call 57; refine (specPutVar _ _).mono ?_; rintro e w1 ⟨rfl, hb1⟩))
         have HB := Lib.hid (((Below.refl wr.heap.size wr).drew).trans (hb1.mono (Nat.le_refl _)))
         clear hb1 s1 s2 s3 s4 s5
         have HI := Lib.hid (getVar_is (by rw [HLL.out]; exact ha) HX.out h9 HC.out (by omega))
         have hpl := part_is s a k
         have HPL := Lib.hid hpl
         clear hpl
         go_wp2
         · have hw : ¬ putVar V1 = (s.data.toList.drop a).take (k + 1) := by
             have ht : (!putVar V1 == (s.extract a (a + k + 1)).toList) = true := by assumption
             rw [ByteArray.toList_eq, HPL.out] at ht
             simpa using ht
           go_ret2
           have hg : getVarAt s.data.toList a = none := by rw [HI.out, if_neg]; rw [EV1.out]; exact hw
           exact ⟨ret_ints (getVar1_none hg).1.symm (getVar1_none hg).2.symm, HB.out⟩
         · have hw : putVar V1 = (s.data.toList.drop a).take (k + 1) := by
             have ht : (!putVar V1 == (s.extract a (a + k + 1)).toList) = false := by assumption
             rw [ByteArray.toList_eq, HPL.out] at ht
             simpa using ht
           go_ret2
           have hg : getVarAt s.data.toList a = some ((s.data.toList.drop a).take (k + 1)) := by rw [HI.out, if_pos]; rw [EV1.out]; exact hw
           have hl1 : ((s.data.toList.drop a).take (k + 1)).length = k + 1 := by rw [List.length_take, List.length_drop, HLL.out]; omega
           exact ⟨ret_ints (a := V1) (c := (a : Int) + (k : Int) + 1) ((getVar1_some hg).1.trans EV1.out).symm (by rw [(getVar1_some hg).2, hl1]; omega), HB.out⟩
     · have HB := Lib.hid (getVar_none (by rw [HLL.out]; exact ha) HX.out hk (Or.inl (by rw [List.length_drop, HLL.out]; omega)))
       have i3 : ¬ (a : Int) < (s.size : Int) - (k : Int) := by omega
       go_wp2
       go_ret2
       exact ⟨ret_ints (getVar1_none HB.out).1.symm (getVar1_none HB.out).2.symm, Below.refl _ _⟩
   · have HB := Lib.hid (getVar_none (by rw [HLL.out]; exact ha) HX.out hk (Or.inr (by omega)))
     go_wp2
     go_ret2
     exact ⟨ret_ints (getVar1_none HB.out).1.symm (getVar1_none HB.out).2.symm, Below.refl _ _⟩

set_option maxHeartbeats 400000 in
theorem specGetVar_out (s : ByteArray) (a : Int) (w : World) (hs : s.size ≤ maxLen) (ha : a < 0 ∨ s.size < a) :
   Calls Tryz.prog 113 #[.string s, .int .i64 a] w (VarOut w s.data.toList a) := by
 have HB := Lib.hid (getVar1_none (getVar_out (l := s.data.toList) (a := a) (by simpa using ha)))
 unfold maxLen at hs
 by_cases h0 : a < 0
 · clear ha
   go_enter Tryz.func113, Tryz.ntmps113
   go_wp2_with fail
   go_loop [6, 7] (fun n i => n = .int .i64 0 ∧ i = .int .i64 0) (fun _ _ => 0)
   case atStart => exact ⟨rfl, rfl⟩
   case round =>
     obtain ⟨rfl, rfl⟩ := hrel
     go_wp2
     go_ret2
     exact ⟨ret_ints HB.out.1.symm HB.out.2.symm, Below.refl _ _⟩
 · have h1 : (s.size : Int) < a := by omega
   clear ha
   go_enter Tryz.func113, Tryz.ntmps113
   go_wp2_with fail
   go_loop [6, 7] (fun n i => n = .int .i64 0 ∧ i = .int .i64 0) (fun _ _ => 0)
   case atStart => exact ⟨rfl, rfl⟩
   case round =>
     obtain ⟨rfl, rfl⟩ := hrel
     go_wp2
     go_ret2
     exact ⟨ret_ints HB.out.1.symm HB.out.2.symm, Below.refl _ _⟩

theorem specGetVar (s : ByteArray) (a : Int) (w : World) (hs : s.size ≤ maxLen) :
   Calls Tryz.prog 113 #[.string s, .int .i64 a] w (VarOut w s.data.toList a) := by
 by_cases ho : a < 0 ∨ s.size < a
 · exact specGetVar_out s a w hs ho
 · obtain ⟨a, rfl⟩ := Int.eq_ofNat_of_zero_le (by omega : 0 ≤ a)
   exact specGetVar_in s a w hs (by omega)
def cut1 (l : List UInt8) : List UInt8 := l.takeWhile (· != 0)
def cut2 (l : List UInt8) : List UInt8 := l.drop ((cut1 l).length + 1)
theorem cut1_zero : ∀ {r x : List UInt8}, (0 : UInt8) ∉ r → cut1 (r ++ 0 :: x) = r
 | [], x, _ => by simp [cut1]
 | a :: us, x, h => by
   have ha : a ≠ 0 := fun e => h (by simp [e])
   have ih := cut1_zero (r := us) (x := x) (fun hm => h (by simp [hm]))
   unfold cut1 at ih ⊢
   rw [List.cons_append, List.takeWhile_cons_of_pos (by simpa using ha), ih]
theorem cut2_zero {r x : List UInt8} (h : (0 : UInt8) ∉ r) : cut2 (r ++ 0 :: x) = x := by
 unfold cut2
 rw [cut1_zero h, List.drop_append]
 simp
theorem cut_index : ∀ l : List UInt8, (Lib.indexByte l 0 = -1 ∧ cut1 l = l ∧ cut2 l = []) ∨ ∃ k : Nat, Lib.indexByte l 0 = k ∧ k < l.length ∧ cut1 l = l.take k ∧ cut2 l = l.drop (k + 1)
 | [] => .inl ⟨by simp [Lib.indexByte], by simp [cut1], by simp [cut2, cut1]⟩
 | a :: us => by
   by_cases ha : a = 0
   · subst ha
     exact .inr ⟨0, by simp [Lib.indexByte], by simp, by simp [cut1], by simp [cut2, cut1]⟩
   · have h1 : cut1 (a :: us) = a :: cut1 us := by unfold cut1; rw [List.takeWhile_cons_of_pos (by simpa using ha)]
     have h2 : cut2 (a :: us) = cut2 us := by unfold cut2; rw [h1]; simp
     have ha' : (a == 0) = false := by simpa using ha
     rcases cut_index us with ⟨e1, e2, e3⟩ | ⟨k, e1, e2, e3, e4⟩
     · exact .inl ⟨by simp [Lib.indexByte, ha', e1], by rw [h1, e2], by rw [h2, e3]⟩
     · refine .inr ⟨k + 1, ?_, by simp; omega, by rw [h1, e3]; simp, by rw [h2, e4]; simp⟩
       unfold Lib.indexByte
       rw [ha', e1]
       have : ((k : Int) == -1) = false := by simp
       simp [this]
theorem cut1_at {l : List UInt8} {k : Nat} (hk : k ≤ l.length) (h : ∀ j, j < k → ∃ c, l[j]? = some c ∧ c ≠ 0) (he : k = l.length ∨ l[k]? = some 0) : cut1 l = l.take k := by
 induction l generalizing k with
 | nil => simp [cut1]
 | cons a us ih =>
   cases k with
   | zero =>
     rcases he with he | he
     · simp at he
     · simp at he
       subst he
       simp [cut1]
   | succ k =>
     obtain ⟨c, hc, hne⟩ := h 0 (by omega)
     simp at hc
     subst hc
     have := ih (k := k) (by simpa using hk) (fun j hj => by obtain ⟨d, hd, h0⟩ := h (j + 1) (by omega); exact ⟨d, by simpa using hd, h0⟩) (by rcases he with he | he; exact .inl (by simpa using he); exact .inr (by simpa using he))
     unfold cut1 at this ⊢
     rw [List.takeWhile_cons_of_pos (by simpa using hne), this, List.take_succ_cons]

theorem getFix_back (n : Nat) (h : n ≤ 1000000000) : getFix (fixB n 4) 0 4 = n := by
 unfold getFix
 rw [if_pos (by simp [fix_length])]
 simp only [Int.toNat_zero, List.drop_zero]
 rw [show (4 : Int).toNat = 4 from rfl, List.take_of_length_le (by simp [fix_length]), fixVal_fix, Nat.mod_eq_of_lt (by omega)]
theorem getFix_bd (l : List UInt8) : -1 ≤ getFix l 0 4 ∧ getFix l 0 4 < 4294967296 := by
 unfold getFix
 by_cases h : (1 : Int) ≤ 4 ∧ (4 : Int) ≤ 4 ∧ (0 : Int) ≤ 0 ∧ (0 : Int) + 4 ≤ l.length
 · rw [if_pos h]
   have := fixVal_lt ((l.drop (0 : Int).toNat).take (4 : Int).toNat)
   have h2 : ((l.drop (0 : Int).toNat).take (4 : Int).toNat).length ≤ 4 := List.length_take_le _ _
   have h3 : 2 ^ (8 * ((l.drop (0 : Int).toNat).take (4 : Int).toNat).length) ≤ 2 ^ 32 := Nat.pow_le_pow_right (by omega) (by omega)
   omega
 · rw [if_neg h]
   omega
def rdTime (l : List UInt8) : Int := 1000000000 - getFix (cut2 (cut2 l)).reverse 0 4
theorem rd_key {r c : List UInt8} {t : Int} (h : keyOk r c t = true) : cut1 (key r c t) = r ∧ cut1 (cut2 (key r c t)) = c ∧ rdTime (key r c t) = t := by
 obtain ⟨a1, a2, a3⟩ := keyOk_parts h
 have := time_bd a3
 unfold rdTime key
 rw [cut1_zero (name_zero a1), cut2_zero (name_zero a1), cut1_zero (name_zero a2), cut2_zero (name_zero a2), List.reverse_reverse, getFix_back _ (by omega)]
 exact ⟨rfl, rfl, by omega⟩
theorem read_impl_yes {l : List UInt8} (hne : l ≠ []) (h : keyOf (cut1 l) (cut1 (cut2 l)) (rdTime l) = l) : ReadIs l (cut1 l) (cut1 (cut2 l)) (rdTime l) := by
 have hk : keyOk (cut1 l) (cut1 (cut2 l)) (rdTime l) = true := keyOf_ok (by rw [h]; exact hne)
 exact .inl ⟨hk, by rw [keyOf_yes hk] at h; exact h.symm⟩
theorem read_impl_no {l : List UInt8} (h : l = [] ∨ keyOf (cut1 l) (cut1 (cut2 l)) (rdTime l) ≠ l) : ReadIs l [] [] (-1) := by
 refine .inr ⟨rfl, rfl, rfl, fun r c t hk hl => ?_⟩
 rcases h with h | h
 · exact key_ne r c t (by rw [← hl]; exact h)
 · obtain ⟨e1, e2, e3⟩ := rd_key hk
   apply h
   rw [hl, e1, e2, e3, keyOf_yes hk]

theorem read_spec_few {l : List UInt8} (h : l.length ≤ (cut1 l).length + 5) : ReadIs l [] [] (-1) := by
 refine .inr ⟨rfl, rfl, rfl, fun r c t hk hl => ?_⟩
 obtain ⟨e1, _, _⟩ := rd_key hk
 rw [← hl] at e1
 have := key_len r c t
 rw [← hl] at this
 rw [e1] at h
 omega
def sp2 (l : List UInt8) (i : Nat) : List UInt8 := (l.drop (i + 1)).take (l.length - 5 - (i + 1))
def sp3 (l : List UInt8) : Int := 1000000000 - fixVal (l.drop (l.length - 4)).reverse
theorem read_spec_yes {l : List UInt8} (hne : l ≠ []) {r c : List UInt8} {t : Int} (h : keyOf r c t = l) : ReadIs l r c t := by
 have hk : keyOk r c t = true := keyOf_ok (by rw [h]; exact hne)
 exact .inl ⟨hk, by rw [keyOf_yes hk] at h; exact h.symm⟩
theorem read_spec_no {l : List UInt8} (h : keyOf (cut1 l) (sp2 l (cut1 l).length) (sp3 l) ≠ l) : ReadIs l [] [] (-1) := by
 refine .inr ⟨rfl, rfl, rfl, fun r c t hk hl => ?_⟩
 obtain ⟨e1, e2, e3⟩ := rd_key hk
 obtain ⟨a1, a2, a3⟩ := keyOk_parts hk
 have htb := time_bd a3
 have hlen := key_len r c t
 rw [← hl] at e1 hlen
 apply h
 have h2 : sp2 l r.length = c := by
   unfold sp2
   rw [hlen, hl]
   unfold key
   rw [List.drop_append, List.drop_eq_nil_of_le (by omega), show r.length + 1 - r.length = 1 by omega]
   simp only [List.nil_append, List.drop_succ_cons, List.drop_zero]
   rw [show r.length + c.length + 6 - 5 - (r.length + 1) = c.length by omega, List.take_append]
   simp
 have h3 : sp3 l = t := by
   unfold sp3
   have hd : l.drop (l.length - 4) = (fixB (1000000000 - t).toNat 4).reverse := by
     have e : key r c t = (r ++ 0 :: (c ++ [0])) ++ (fixB (1000000000 - t).toNat 4).reverse := by unfold key; simp
     rw [hlen, hl, e, List.drop_append, List.drop_eq_nil_of_le (by simp; omega)]
     have : r.length + c.length + 6 - 4 - (r ++ 0 :: (c ++ [0])).length = 0 := by simp; omega
     rw [this]
     simp
   rw [hd, List.reverse_reverse, fixVal_fix, Nat.mod_eq_of_lt (by omega)]
   omega
 rw [e1, h2, h3, keyOf_yes hk, hl]
theorem four_val (a b c d : UInt8) : fixVal [a, b, c, d].reverse = a.toNat * 16777216 + b.toNat * 65536 + c.toNat * 256 + d.toNat := by
 simp [fixVal]
 omega
def TellsB (w : World) (b : Bool) (e : Ending) (w' : World) : Prop := e = .returned (.bool b) ∧ ∃ n, w' = w.drewN n

theorem byte_get (s : ByteArray) (k : Nat) (h : k < s.size) : s.data.toList[k]? = some (s[k]'h) := byte_at s k h

set_option maxHeartbeats 1000000 in
theorem implName (s : ByteArray) (hs : s.size ≤ maxLen) (w : World) : Calls Tryz.prog 121 #[.string s] w (TellsB w (nameOk s.data.toList)) := by
 unfold maxLen at hs
 have hl : s.data.toList.length = s.size := by simp
 by_cases h1 : s.size < 1
 · have HR := Lib.hid (name_len (l := s.data.toList) (by rw [hl]; omega))
   clear hl
   go_enter Tryz.func121, Tryz.ntmps121
   go_wp2
   go_ret
   exact ⟨ret_bool HR.out.symm, 0, rfl⟩
 by_cases h2 : 16 < s.size
 · have HR := Lib.hid (name_len (l := s.data.toList) (by rw [hl]; omega))
   clear hl
   go_enter Tryz.func121, Tryz.ntmps121
   go_wp2
   go_ret
   exact ⟨ret_bool HR.out.symm, 0, rfl⟩
 have HL := Lib.hid hl
 clear hl
 go_enter Tryz.func121, Tryz.ntmps121
 go_wp2_with fail
 go_loopw [14] (fun i wr => ∃ k : Nat, k ≤ s.size ∧ i = .int .i64 k ∧ Hid (∀ j, j < k → ∃ c, s.data.toList[j]? = some c ∧ sign c = true) ∧ ∃ n, wr = w.drewN n) (fun i _ => s.size - (intOf i).toNat)
 case atStart => exact ⟨0, Nat.zero_le _, rfl, fun j hj => absurd hj (by omega), 0, rfl⟩
 case round =>
   obtain ⟨k, hk, rfl, HJ, n, rfl⟩ := hrel
   by_cases hlt : k < s.size
   · have i1 : (k : Int) < (s.size : Int) := by omega
     have HB := Lib.hid (byte_get s k hlt)
     by_cases hc1 : s[k].toNat < 33
     · have HR := Lib.hid (name_bad HB.out (sign_no (.inl hc1)))
       go_wp2
       go_ret
       exact ⟨ret_bool HR.out.symm, _, rfl⟩
     by_cases hc2 : 126 < s[k].toNat
     · have HR := Lib.hid (name_bad HB.out (sign_no (.inr hc2)))
       go_wp2
       go_ret
       exact ⟨ret_bool HR.out.symm, _, rfl⟩
     have HS := Lib.hid (sign_yes (c := s[k]) (by omega) (by omega))
     go_wp2
     go_roundw
     case rel =>
       refine ⟨k + 1, by omega, by go_num, ?_, _, rfl⟩
       intro j hj
       by_cases hj2 : j < k
       · exact HJ.out j hj2
       · obtain rfl : j = k := by omega
         exact ⟨_, HB.out, HS.out⟩
     case measure => simp [intOf]; omega
   · obtain rfl : k = s.size := by omega
     have HR := Lib.hid (name_good (l := s.data.toList) (fun j hj => HJ.out j (by rw [HL.out] at hj; exact hj)) (by rw [HL.out]; omega) (by rw [HL.out]; omega))
     go_wp2
     go_ret
     exact ⟨ret_bool HR.out.symm, _, rfl⟩

set_option maxHeartbeats 1000000 in
theorem specName (s : ByteArray) (hs : s.size ≤ maxLen) (w : World) : Calls Tryz.prog 102 #[.string s] w (TellsB w (nameOk s.data.toList)) := by
 unfold maxLen at hs
 have hl : s.data.toList.length = s.size := by simp
 have HL := Lib.hid hl
 clear hl
 go_enter Tryz.func102, Tryz.ntmps102
 go_wp2_with fail
 go_loopw [3] (fun i wr => ∃ k : Nat, k ≤ s.size ∧ i = .int .i64 k ∧ Hid (∀ j, j < k → ∃ c, s.data.toList[j]? = some c ∧ sign c = true) ∧ ∃ n, wr = w.drewN n) (fun i _ => s.size - (intOf i).toNat)
 case atStart => exact ⟨0, Nat.zero_le _, rfl, fun j hj => absurd hj (by omega), 0, rfl⟩
 case round =>
   obtain ⟨k, hk, rfl, HJ, n, rfl⟩ := hrel
   by_cases hlt : k < s.size
   · have i1 : (k : Int) < (s.size : Int) := by omega
     have HB := Lib.hid (byte_get s k hlt)
     have hc0 := s[k].toNat_lt
     by_cases hc : s[k].toNat < 33 ∨ 126 < s[k].toNat
     · have HR := Lib.hid (name_bad HB.out (sign_no hc))
       have HC := Lib.hid hc
       clear hc
       go_wp2_with fail
       refine (specIn_no _ 33 126 _ (by have := HC.out; omega)).mono ?_
       rintro e w1 ⟨rfl, rfl⟩
       go_wp2
       go_ret
       exact ⟨ret_bool HR.out.symm, _, rfl⟩
     have HS := Lib.hid (sign_yes (c := s[k]) (by omega) (by omega))
     have HC := Lib.hid hc
     clear hc
     go_wp2_with fail
     refine (specIn_yes _ 33 126 _ (by have := HC.out; omega) (by have := HC.out; omega)).mono ?_
     rintro e w1 ⟨rfl, rfl⟩
     go_wp2
     go_roundw
     case rel =>
       refine ⟨k + 1, by omega, by go_num, ?_, _, rfl⟩
       intro j hj
       by_cases hj2 : j < k
       · exact HJ.out j hj2
       · obtain rfl : j = k := by omega
         exact ⟨_, HB.out, HS.out⟩
     case measure => simp [intOf]; omega
   · obtain rfl : k = s.size := by omega
     by_cases h12 : s.size < 1 ∨ 16 < s.size
     · have HR := Lib.hid (name_len (l := s.data.toList) (by rw [HL.out]; omega))
       have HC := Lib.hid h12
       clear h12
       go_wp2_with fail
       refine (specIn_no _ 1 16 _ (by have := HC.out; omega)).mono ?_
       rintro e w1 ⟨rfl, rfl⟩
       go_wp2
       go_ret
       exact ⟨ret_bool HR.out.symm, _, rfl⟩
     · have HR := Lib.hid (name_good (l := s.data.toList) (fun j hj => HJ.out j (by rw [HL.out] at hj; exact hj)) (by rw [HL.out]; omega) (by rw [HL.out]; omega))
       go_wp2_with fail
       refine (specIn_yes _ 1 16 _ (by omega) (by omega)).mono ?_
       rintro e w1 ⟨rfl, rfl⟩
       go_wp2
       go_ret
       exact ⟨ret_bool HR.out.symm, _, rfl⟩

theorem implTime (t : Int) (w : World) : Calls Tryz.prog 122 #[.int .i64 t] w fun e w' => e = .returned (.bool (timeOk t)) ∧ w = w' := by
 by_cases h1 : t < 0
 · have HR := Lib.hid (time_no (t := t) (.inl h1))
   go_enter Tryz.func122, Tryz.ntmps122
   go_wp2
   go_ret
   exact ⟨ret_bool HR.out.symm, rfl⟩
 by_cases h2 : 1000000000 < t
 · have HR := Lib.hid (time_no (t := t) (.inr h2))
   go_enter Tryz.func122, Tryz.ntmps122
   go_wp2
   go_ret
   exact ⟨ret_bool (by rw [HR.out]; exact decide_eq_false (by omega)), rfl⟩
 have HR := Lib.hid (time_yes (t := t) (by omega) (by omega))
 go_enter Tryz.func122, Tryz.ntmps122
 go_wp2
 go_ret
 exact ⟨ret_bool HR.out.symm, rfl⟩
theorem specTime (t : Int) (w : World) : Calls Tryz.prog 61 #[.int .i64 t, .int .i64 0, .int .i64 1000000000] w fun e w' => e = .returned (.bool (timeOk t)) ∧ w = w' := by
 by_cases h : t < 0 ∨ 1000000000 < t
 · rw [time_no h]
   exact specIn_no t 0 1000000000 w h
 · rw [time_yes (by omega) (by omega)]
   exact specIn_yes t 0 1000000000 w (by omega) (by omega)
structure Buf (w0 w : World) (g : Nat) (xs : List UInt8) : Prop where
 block : ∃ (cs : Array Value) (n : Nat), w.heap[g]? = some (.cells cs 5 (n, n + 1)) ∧ xs.length ≤ n ∧ xs.length ≤ cs.size ∧ ∀ j, j < xs.length → cs[j]? = some (u8v (xs.getD j 0))
 own : w0.heap.size ≤ g
 below : Below w0.heap.size w0 w

theorem Buf.cell {w0 w : World} {g : Nat} {xs : List UInt8} (t : Buf w0 w g xs) (j : Nat) (hj : j < xs.length) : w.cell? ⟨g, j, none⟩ = some (u8v (xs.getD j 0)) := by
 obtain ⟨cs, n, hb, h1, h2, h3⟩ := t.block
 have := h3 j hj
 simp [World.cell?, hb, this]
theorem Buf.frozen {w0 w : World} {g : Nat} {xs : List UInt8} (t : Buf w0 w g xs) (j : Nat) (hj : j < xs.length) : w.frozen? ⟨g, j, none⟩ = false := by
 obtain ⟨cs, n, hb, h1, h2, h3⟩ := t.block
 simp [World.frozen?, hb]
 omega
theorem Buf.set {w0 w : World} {g : Nat} {xs : List UInt8} (t : Buf w0 w g xs) (k : Nat) (c : UInt8) {v : Value} (hv : v = u8v c) : Buf w0 (w.setCell ⟨g, k, none⟩ v) g (xs.set k c) := by
 subst hv
 obtain ⟨cs, n, hb, h1, h2, h3⟩ := t.block
 refine ⟨⟨cs.setIfInBounds k (u8v c), n, ?_, by simpa using h1, by simpa using h2, ?_⟩, t.own, t.below.trans ((Below.refl _ _).setCell t.own _)⟩
 · rw [set_block _ hb]
 · intro j hj
   rw [List.length_set] at hj
   rw [Array.getElem?_setIfInBounds]
   by_cases e : k = j
   · subst e
     rw [if_pos rfl, if_pos (by omega)]
     simp [hj]
   · rw [if_neg e, h3 j hj]
     simp [e]
theorem Buf.drewN {w0 w : World} {g : Nat} {xs : List UInt8} (t : Buf w0 w g xs) (n : Nat) : Buf w0 (w.drewN n) g xs := ⟨t.block, t.own, t.below.trans (below_draws n)⟩
theorem Buf.str {w0 w : World} {g c n : Nat} {xs : List UInt8} (t : Buf w0 w g xs) (hn : xs.length = n) :
   (convert 22 9 (.slice (some ⟨g, 0, none⟩) n c)).run Tryz.prog w = .ok (.string ⟨xs.toArray⟩) w := str_of_cells xs hn t.cell

theorem buf_new (w : World) (s : ByteArray) : ∃ cap W, (convert 9 22 (.string s)).run Tryz.prog w = .ok (.slice (some ⟨w.heap.size, 0, none⟩) s.size cap) W ∧ Buf w W w.heap.size s.data.toList ∧ s.size ≤ cap := by
 have hrun := run_bytes_of_string (P := Tryz.prog) w 9 22 5 s Tryz.underlying9 Tryz.underlying22 Tryz.underlying5
 have hcap : s.size ≤ grownCap w s.size 0 5 := grownCap_ge _ _ _ _
 refine ⟨_, _, hrun, ⟨⟨bytesRow s (grownCap w s.size 0 5), (bytesRow s (grownCap w s.size 0 5)).size, ?_, ?_, ?_, ?_⟩, Nat.le_refl _, ?_⟩, hcap⟩
 · show (w.heap.push _)[w.heap.size]? = _
   simp
 · simp [bytesRow]
 · simp [bytesRow]
 · intro j hj
   have hj' : j < s.size := by simpa using hj
   unfold bytesRow
   rw [Array.getElem?_append_left (by simpa using hj')]
   simp [u8v, hj']
 · exact ⟨rfl, rfl, rfl, by simp, fun k hk => by
     show (w.heap.push _)[k]? = _
     rw [Array.getElem?_push, if_neg (by omega)]⟩
def revTo (l : List UInt8) (i : Nat) : List UInt8 := (List.range l.length).map fun k => if k < i ∨ l.length ≤ k + i then l.getD (l.length - 1 - k) 0 else l.getD k 0
theorem revTo_len (l : List UInt8) (i : Nat) : (revTo l i).length = l.length := by simp [revTo]
theorem revTo_at (l : List UInt8) (i k : Nat) (hk : k < l.length) : (revTo l i)[k]? = some (if k < i ∨ l.length ≤ k + i then l.getD (l.length - 1 - k) 0 else l.getD k 0) := by
 unfold revTo
 rw [List.getElem?_map, List.getElem?_range hk]
 rfl
theorem revTo_zero (l : List UInt8) : revTo l 0 = l := by
 apply List.ext_getElem?
 intro k
 by_cases hk : k < l.length
 · rw [revTo_at l 0 k hk, if_neg (by omega), List.getElem?_eq_getElem hk]
   simp [hk]
 · rw [List.getElem?_eq_none (by rw [revTo_len]; omega), List.getElem?_eq_none (by omega)]
theorem revTo_end (l : List UInt8) (i : Nat) (h : l.length ≤ 2 * i + 1) : revTo l i = l.reverse := by
 apply List.ext_getElem?
 intro k
 by_cases hk : k < l.length
 · rw [revTo_at l i k hk, List.getElem?_reverse hk]
   by_cases h1 : k < i ∨ l.length ≤ k + i
   · rw [if_pos h1, List.getElem?_eq_getElem (by omega)]
     simp [show l.length - 1 - k < l.length by omega]
   · have e : l.length - 1 - k = k := by omega
     rw [if_neg h1, e, List.getElem?_eq_getElem hk]
     simp [hk]
 · rw [List.getElem?_eq_none (by rw [revTo_len]; omega), List.getElem?_eq_none (by simp; omega)]
theorem revTo_same (l : List UInt8) (i : Nat) (h : i < l.length - 1 - i) : (revTo l i).getD i 0 = l.getD i 0 ∧ (revTo l i).getD (l.length - 1 - i) 0 = l.getD (l.length - 1 - i) 0 := by
 have h1 := revTo_at l i i (by omega)
 have h2 := revTo_at l i (l.length - 1 - i) (by omega)
 rw [if_neg (by omega)] at h1 h2
 exact ⟨by rw [List.getD_eq_getElem?_getD, h1]; rfl, by rw [List.getD_eq_getElem?_getD, h2]; rfl⟩
theorem revTo_step (l : List UInt8) (i : Nat) (h : i < l.length - 1 - i) : ((revTo l i).set i (l.getD (l.length - 1 - i) 0)).set (l.length - 1 - i) (l.getD i 0) = revTo l (i + 1) := by
 apply List.ext_getElem?
 intro k
 by_cases hk : k < l.length
 · rw [revTo_at l (i + 1) k hk, List.getElem?_set]
   by_cases h1 : l.length - 1 - i = k
   · subst h1
     rw [if_pos rfl, if_pos (by simp [revTo_len]; omega), if_pos (by omega), show l.length - 1 - (l.length - 1 - i) = i by omega]
   · rw [if_neg h1, List.getElem?_set]
     by_cases h2 : i = k
     · subst h2
       rw [if_pos rfl, if_pos (by rw [revTo_len]; omega), if_pos (by omega)]
     · rw [if_neg h2, revTo_at l i k hk]
       by_cases h3 : k < i ∨ l.length ≤ k + i
       · rw [if_pos h3, if_pos (by omega)]
       · rw [if_neg h3, if_neg (by omega)]
 · rw [List.getElem?_eq_none (by simp [revTo_len]; omega), List.getElem?_eq_none (by rw [revTo_len]; omega)]

set_option maxHeartbeats 2000000 in
theorem reverse_at (w0 w : World) (g c : Nat) (xs : List UInt8) (t : Buf w0 w g xs) (hl : xs.length ≤ 1048576) (hc : xs.length ≤ c) :
   Calls Tryz.prog 147 #[.slice (some ⟨g, 0, none⟩) xs.length c] w fun e w' => (∃ v, e = .returned v) ∧ Buf w0 w' g xs.reverse := by
 obtain ⟨n, hn⟩ : ∃ n, xs.length = n := ⟨_, rfl⟩
 have HN := Lib.hid hn
 have T0 := Lib.hid t
 rw [hn] at hl hc ⊢
 clear hn t
 go_enter Tryz.func147, Tryz.ntmps147
 go_wp2_with fail
 go_loopw [2, 3] (fun ii jj wr => ∃ i : Nat, (i = 0 ∨ 2 * i ≤ n) ∧ ii = .int .i64 i ∧ jj = .int .i64 ((n : Int) - 1 - i) ∧ Buf w0 wr g (revTo xs i)) (fun ii _ _ => n - (intOf ii).toNat)
 case atStart => exact ⟨0, .inl rfl, rfl, by go_num, by rw [revTo_zero]; exact T0.out⟩
 case round =>
   obtain ⟨i, hi, rfl, rfl, t⟩ := hrel
   have TT := Lib.hid t
   by_cases hlt : i < n - 1 - i
   · obtain ⟨j, hj⟩ : ∃ j, n - 1 - i = j := ⟨_, rfl⟩
     have ej : ((n : Int) - 1 - i) = (j : Int) := by omega
     have hs := revTo_same xs i (by rw [HN.out]; exact hlt)
     have hst := revTo_step xs i (by rw [HN.out]; exact hlt)
     rw [HN.out, hj] at hs hst
     have c0 := t.cell i (by rw [revTo_len, HN.out]; omega)
     have c1 := t.cell j (by rw [revTo_len, HN.out]; omega)
     rw [hs.1] at c0
     rw [hs.2] at c1
     have f0 := t.frozen i (by rw [revTo_len, HN.out]; omega)
     have f1 := t.frozen j (by rw [revTo_len, HN.out]; omega)
     unfold u8v at c0 c1
     obtain ⟨ci, hci⟩ : ∃ x, xs.getD i 0 = x := ⟨_, rfl⟩
     obtain ⟨cj, hcj⟩ : ∃ x, xs.getD j 0 = x := ⟨_, rfl⟩
     rw [hci] at c0 hst
     rw [hcj] at c1 hst
     have HST := Lib.hid hst
     rw [ej]
     have hij : i ≠ j := by omega
     have hjn : j < n := by omega
     have hin : i < n := by omega
     have i1 : (i : Int) < (j : Int) := by omega
     have i2 : (j : Int) < (n : Int) := by omega
     have i3 : (i : Int) < (n : Int) := by omega
     have HJ := Lib.hid hj
     clear t hs hst hj ej hci hcj
     go_wp2_with fail
     go_region
     go_wp2
     go_roundw
     case rel => exact ⟨i + 1, .inr (by have := HJ.out; omega), by go_num, by have := HJ.out; go_num, by rw [← HST.out]; exact (((TT.out.set i cj rfl).set j ci rfl).drewN 1)⟩
     case measure => simp [intOf]; omega
   · have HE := Lib.hid (revTo_end xs i (by rw [HN.out]; omega))
     have i1 : ¬ ((i : Int) < (n : Int) - 1 - i) := by omega
     clear t
     go_wp2
     exact bodyPost_end (results_none rfl _ _ _) rfl ⟨⟨_, rfl⟩, by rw [← HE.out]; exact TT.out⟩

set_option maxHeartbeats 400000 in
theorem implReversed (s : ByteArray) (hs : s.size ≤ 1048576) (w : World) : Calls Tryz.prog 127 #[.string s] w (TextIs w s.data.toList.reverse) := by
 obtain ⟨cap, W, hcv, hbuf, hcap⟩ := buf_new w s
 have hll : s.data.toList.length = s.size := by simp
 have HLL := Lib.hid hll
 have HBF := Lib.hid hbuf
 clear hbuf hll
 go_enter Tryz.func127, Tryz.ntmps127
 go_wp2_with fail
 have HR := reverse_at w W w.heap.size cap s.data.toList HBF.out (by rw [HLL.out]; omega) (by rw [HLL.out]; omega)
 rw [HLL.out] at HR
 refine HR.mono ?_
 clear HR
 rintro e w1 ⟨⟨v, rfl⟩, b1⟩
 have hst := b1.str (c := cap) (n := s.size) (by simp)
 have B1 := Lib.hid b1.below
 clear b1 hcv
 go_wp2
 go_ret
 exact ⟨rfl, B1.out⟩
theorem key_text (R C S : ByteArray) (T : Int) (h : S.data.toList = (fixB (1000000000 - T).toNat 4).reverse) : (R ++ (⟨#[0]⟩ : ByteArray) ++ C ++ (⟨#[0]⟩ : ByteArray) ++ S) = ⟨(key R.data.toList C.data.toList T).toArray⟩ := by
 apply bytes_ext
 unfold key
 simp [h]
theorem keyOk_form (R C : ByteArray) (T : Int) {r c t : Bool} (h1 : nameOk R.data.toList = r) (h2 : nameOk C.data.toList = c) (h3 : timeOk T = t) : keyOk R.data.toList C.data.toList T = (r && c && t) := by unfold keyOk; rw [h1, h2, h3]

theorem four_text (W : World) (m : Nat) (hm : m ≤ 1000000000) : ∃ S : ByteArray, S.data.toList = (fixB m 4).reverse ∧ S.size = 4 ∧
   (convert 22 9 (.slice (some ⟨W.heap.size, 0, none⟩) 4 4)).run Tryz.prog (W.alloc (.cells #[.int .u8 ((m : Int) / 16777216), .int .u8 ((m : Int) / 65536 % 256), .int .u8 ((m : Int) / 256 % 256), .int .u8 ((m : Int) % 256)] 5)) =
     .ok (.string S) (W.alloc (.cells #[.int .u8 ((m : Int) / 16777216), .int .u8 ((m : Int) / 65536 % 256), .int .u8 ((m : Int) / 256 % 256), .int .u8 ((m : Int) % 256)] 5)) := by
 refine ⟨⟨(fixB m 4).reverse.toArray⟩, rfl, by simp [ByteArray.size, fix_length], str_of_cells _ (by simp [fix_length]) ?_⟩
 intro j hj
 have hb : (W.alloc (.cells #[.int .u8 ((m : Int) / 16777216), .int .u8 ((m : Int) / 65536 % 256), .int .u8 ((m : Int) / 256 % 256), .int .u8 ((m : Int) % 256)] 5)).heap[W.heap.size]? = some (.cells #[.int .u8 ((m : Int) / 16777216), .int .u8 ((m : Int) / 65536 % 256), .int .u8 ((m : Int) / 256 % 256), .int .u8 ((m : Int) % 256)] 5 (0, 0)) := by
   show (W.heap.push _)[W.heap.size]? = _
   simp
 rw [show (W.alloc (.cells #[.int .u8 ((m : Int) / 16777216), .int .u8 ((m : Int) / 65536 % 256), .int .u8 ((m : Int) / 256 % 256), .int .u8 ((m : Int) % 256)] 5)).cell? ⟨W.heap.size, j, none⟩ = #[Value.int .u8 ((m : Int) / 16777216), .int .u8 ((m : Int) / 65536 % 256), .int .u8 ((m : Int) / 256 % 256), .int .u8 ((m : Int) % 256)][j]? by simp only [World.cell?, hb]; rfl]
 have e0 := byteInt m 0
 have e1 := byteInt m 1
 have e2 := byteInt m 2
 have e3 := byteInt m 3
 simp only [Nat.mul_zero, Nat.reduceMul, Nat.reducePow, Int.reducePow, Int.pow_zero, Nat.pow_zero, Nat.div_one, Int.ediv_one] at e0 e1 e2 e3
 have e3' : (m : Int) / 16777216 = (m : Int) / 16777216 % 256 := by omega
 have hx : (fixB m 4).reverse = [UInt8.ofNat (m / 16777216), UInt8.ofNat (m / 65536), UInt8.ofNat (m / 256), UInt8.ofNat m] := by simp [fixB, List.range_succ]
 rw [hx] at hj ⊢
 rw [e3', e3, e2, e1, e0]
 match j, hj with
 | 0, _ => rfl
 | 1, _ => rfl
 | 2, _ => rfl
 | 3, _ => rfl

set_option maxHeartbeats 2000000 in
theorem implKeyOf (R C : ByteArray) (T : Int) (hR : R.size ≤ maxLen) (hC : C.size ≤ maxLen) (w : World) :
   Calls Tryz.prog 92 #[.string R, .string C, .int .i64 T] w (TextIs w (keyOf R.data.toList C.data.toList T)) := by
 obtain ⟨r, hr⟩ : ∃ r, nameOk R.data.toList = r := ⟨_, rfl⟩
 obtain ⟨c, hc⟩ : ∃ c, nameOk C.data.toList = c := ⟨_, rfl⟩
 obtain ⟨t, ht⟩ : ∃ t, timeOk T = t := ⟨_, rfl⟩
 have HK := Lib.hid (keyOk_form R C T hr hc ht)
 have HN := Lib.hid (And.intro hr (And.intro hc ht))
 clear hr hc ht
 go_enter Tryz.func92, Tryz.ntmps92
 go_wp2_with fail
 refine (implName R hR _).mono ?_
 rw [HN.out.1]
 rintro e w1 ⟨rfl, n1, rfl⟩
 cases r
 · go_wp2
   go_ret
   exact ⟨ret_text (a := []) (by rw [keyOf_no (by rw [HK.out]; rfl)]), below_draws _⟩
 go_wp2_with fail
 refine (implName C hC _).mono ?_
 rw [HN.out.2.1]
 rintro e w1 ⟨rfl, n2, rfl⟩
 cases c
 · go_wp2
   go_ret
   exact ⟨ret_text (a := []) (by rw [keyOf_no (by rw [HK.out]; rfl)]), below_draws _⟩
 go_wp2_with fail
 refine (implTime T _).mono ?_
 rw [HN.out.2.2]
 rintro e w1 ⟨rfl, rfl⟩
 cases t
 · go_wp2
   go_ret
   exact ⟨ret_text (a := []) (by rw [keyOf_no (by rw [HK.out]; rfl)]), below_draws _⟩
 have hb := time_bd HN.out.2.2
 have hr16 := (name_parts HN.out.1).2.2
 have hc16 := (name_parts HN.out.2.1).2.2
 simp only [Array.length_toList, ByteArray.size_data] at hr16 hc16
 obtain ⟨m, hm⟩ : ∃ m : Nat, 1000000000 - T = (m : Int) := ⟨(1000000000 - T).toNat, by omega⟩
 have HM := Lib.hid (show (1000000000 - T).toNat = m by omega)
 have hm9 : (m : Int) ≤ 1000000000 := by omega
 have q1 : R.size + 1 ≤ 1000 := by omega
 have q2 : R.size + 1 + C.size ≤ 1000 := by omega
 have q3 : R.size + 1 + C.size + 1 ≤ 1000 := by omega
 go_wp2_with fail
 refine (implPutFix_in m 4 _ (by omega) (by omega) (by omega)).mono ?_
 intro e w1 h1
 obtain ⟨S, hS, hSz, rfl, hb1⟩ := h1.text
 rw [fix_length] at hSz
 have HS := Lib.hid hS
 have HB1 := Lib.hid ((below_draws (B := w.heap.size) (w := w) (n1 + n2)).trans (hb1.mono (by simp)))
 clear h1 hS hb1
 go_wp2_with fail
 refine (implReversed S (by omega) _).mono ?_
 intro e w2 h2
 obtain ⟨S2, hS2, hS2z, rfl, hb2⟩ := h2.text
 rw [HS.out, List.length_reverse, fix_length] at hS2z
 have HS2 := Lib.hid (show S2.data.toList = (fixB (1000000000 - T).toNat 4).reverse by rw [hS2, HS.out, HM.out])
 have HB2 := Lib.hid (HB1.out.trans (hb2.mono HB1.out.size))
 have q4 : R.size + 1 + C.size + 1 + S2.size ≤ 1000 := by omega
 clear h2 hS2 hb2
 go_wp2
 go_ret
 exact ⟨by rw [keyOf_yes HK.out, ← key_text R C S2 T HS2.out]; rfl, HB2.out⟩

set_option maxHeartbeats 2000000 in
set_option maxRecDepth 100000 in
theorem specKeyOf (R C : ByteArray) (T : Int) (hR : R.size ≤ maxLen) (hC : C.size ≤ maxLen) (w : World) :
   Calls Tryz.prog 56 #[.string R, .string C, .int .i64 T] w (TextIs w (keyOf R.data.toList C.data.toList T)) := by
 obtain ⟨r, hr⟩ : ∃ r, nameOk R.data.toList = r := ⟨_, rfl⟩
 obtain ⟨c, hc⟩ : ∃ c, nameOk C.data.toList = c := ⟨_, rfl⟩
 obtain ⟨t, ht⟩ : ∃ t, timeOk T = t := ⟨_, rfl⟩
 have HK := Lib.hid (keyOk_form R C T hr hc ht)
 have HN := Lib.hid (And.intro hr (And.intro hc ht))
 clear hr hc ht
 go_enter Tryz.func56, Tryz.ntmps56
 go_wp2_with fail
 refine (specName R hR _).mono ?_
 rw [HN.out.1]
 rintro e w1 ⟨rfl, n1, rfl⟩
 cases r
 · go_wp2
   go_ret
   exact ⟨ret_text (a := []) (by rw [keyOf_no (by rw [HK.out]; rfl)]), below_draws _⟩
 go_wp2_with fail
 refine (specName C hC _).mono ?_
 rw [HN.out.2.1]
 rintro e w1 ⟨rfl, n2, rfl⟩
 cases c
 · go_wp2
   go_ret
   exact ⟨ret_text (a := []) (by rw [keyOf_no (by rw [HK.out]; rfl)]), below_draws _⟩
 go_wp2_with fail
 refine (specTime T _).mono ?_
 rw [HN.out.2.2]
 rintro e w1 ⟨rfl, rfl⟩
 cases t
 · go_wp2
   go_ret
   exact ⟨ret_text (a := []) (by rw [keyOf_no (by rw [HK.out]; rfl)]), below_draws _⟩
 have hb := time_bd HN.out.2.2
 have hr16 := (name_parts HN.out.1).2.2
 have hc16 := (name_parts HN.out.2.1).2.2
 simp only [Array.length_toList, ByteArray.size_data] at hr16 hc16
 obtain ⟨m, hm⟩ : ∃ m : Nat, 1000000000 - T = (m : Int) := ⟨(1000000000 - T).toNat, by omega⟩
 have HM := Lib.hid (show (1000000000 - T).toNat = m by omega)
 have hm9 : (m : Int) ≤ 1000000000 := by omega
 have q1 : R.size + 1 ≤ 1000 := by omega
 have q2 : R.size + 1 + C.size ≤ 1000 := by omega
 have q3 : R.size + 1 + C.size + 1 ≤ 1000 := by omega
 obtain ⟨S, hS, hSz, hcv⟩ := four_text (w.drewN (n1 + n2)) m (by omega)
 simp only [World.heap_drewN] at hcv
 have HS := Lib.hid (show S.data.toList = (fixB (1000000000 - T).toNat 4).reverse by rw [hS, HM.out])
 have q4 : R.size + 1 + C.size + 1 + S.size ≤ 1000 := by omega
 clear hS
 go_wp2
 go_ret
 exact ⟨by rw [keyOf_yes HK.out, ← key_text R C S T HS.out]; rfl, (below_draws _).alloc (by simp) _⟩
def One5 (A : Nat) (a0 a1 a2 a3 a4 : Value) (w : World) : Prop :=
 w.cell? ⟨A, 0, none⟩ = some a0 ∧ w.cell? ⟨A, 1, none⟩ = some a1 ∧ w.cell? ⟨A, 2, none⟩ = some a2 ∧ w.cell? ⟨A, 3, none⟩ = some a3 ∧ w.cell? ⟨A, 4, none⟩ = some a4
theorem One5.below {A : Nat} {a0 a1 a2 a3 a4 : Value} {w w' : World} (h : One5 A a0 a1 a2 a3 a4 w) (hb : Below w.heap.size w w') : One5 A a0 a1 a2 a3 a4 w' := by
 have hA := cell_lt h.1
 obtain ⟨h0, h1, h2, h3, h4⟩ := h
 exact ⟨(hb.cell (p := ⟨A, 0, none⟩) hA).trans h0, (hb.cell (p := ⟨A, 1, none⟩) hA).trans h1, (hb.cell (p := ⟨A, 2, none⟩) hA).trans h2, (hb.cell (p := ⟨A, 3, none⟩) hA).trans h3, (hb.cell (p := ⟨A, 4, none⟩) hA).trans h4⟩
theorem one5_new (w : World) (a0 a1 a2 a3 a4 : Value) (T : Nat) : One5 w.heap.size a0 a1 a2 a3 a4 (w.alloc (.cells #[a0, a1, a2, a3, a4] T)) := by
 have hA := alloc_at w (.cells #[a0, a1, a2, a3, a4] T)
 refine ⟨?_, ?_, ?_, ?_, ?_⟩
 all_goals (simp only [World.cell?, hA]; rfl)
theorem blk5 {w : World} {g T : Nat} {a0 a1 a2 a3 a4 : Value} (h : w.heap[g]? = some (.cells #[a0, a1, a2, a3, a4] T (0, 0))) : One5 g a0 a1 a2 a3 a4 w ∧ w.frozen? ⟨g, 0, none⟩ = false ∧ w.frozen? ⟨g, 1, none⟩ = false ∧ w.frozen? ⟨g, 2, none⟩ = false ∧ w.frozen? ⟨g, 3, none⟩ = false ∧ w.frozen? ⟨g, 4, none⟩ = false := by
 refine ⟨⟨?_, ?_, ?_, ?_, ?_⟩, ?_, ?_, ?_, ?_, ?_⟩
 all_goals first | (simp only [World.cell?, h]; rfl) | simp [World.frozen?, h]
def lcg (h : Int) : Int := wrap64 (wrap64 (h * 6364136223846793005) + 1442695040888963407)
def mix (h : Int) : Int := bits .and .i64 (bits .xor .i64 (h / 8589934592) (h / 35184372088832)) 255
def gByte (len : Nat) (zs : List Int) (i : Nat) (h : Int) : Int := if i < len then bits .and .i64 (mix (lcg h) + zs.getD i 0) 255 else mix (lcg h)
def gNext (len : Nat) (i : Nat) : Nat := if i < len then i + 1 else i

theorem and255 (x : Int) : bits .and .i64 x 255 = x % 256 := by
 show IntKind.i64.wrap ((BitVec.ofInt 64 x &&& BitVec.ofInt 64 255).toNat : Int) = _
 rw [BitVec.toNat_and]
 have e : (BitVec.ofInt 64 255).toNat = 2 ^ 8 - 1 := by decide
 rw [e, Nat.and_two_pow_sub_one_eq_mod, IntKind.wrap_i64]
 have : ((BitVec.ofInt 64 x).toNat : Int) = x % 18446744073709551616 := by
   rw [BitVec.toNat_ofInt]; simp; omega
 omega

theorem mix_bd (h : Int) : 0 ≤ mix h ∧ mix h ≤ 255 := by unfold mix; rw [and255]; omega
theorem gByte_bd (len : Nat) (zs : List Int) (i : Nat) (h : Int) : 0 ≤ gByte len zs i h ∧ gByte len zs i h ≤ 255 := by
 unfold gByte
 split
 · rw [and255]; omega
 · exact mix_bd _
def Bytes (w : World) (p : Nat) (a : Option Addr) (len : Nat) (zs : List Int) : Prop :=
 len ≤ maxLen ∧ ∀ k, k < len → ∃ b off, a = some ⟨b, off, none⟩ ∧ b < w.heap.size ∧ b ≠ p ∧ w.cell? ⟨b, off + k, none⟩ = some (.int .u8 (zs.getD k 0)) ∧ 0 ≤ zs.getD k 0 ∧ zs.getD k 0 ≤ 255

structure CurAt (w : World) (T p : Nat) (a : Option Addr) (len cap : Nat) (zs : List Int) (i : Nat) (h : Int) : Prop where
 block : w.heap[p]? = some (.cells #[.slice a len cap, .int .i64 i, .int .i64 h] T (0, 0))
 bytes : Bytes w p a len zs
 le : i ≤ len

theorem Bytes.kept {w w' : World} {p len : Nat} {a : Option Addr} {zs : List Int} (h : Bytes w p a len zs) (hg : w.grownBy w' (some p)) : Bytes w' p a len zs := by
 refine ⟨h.1, fun k hk => ?_⟩
 obtain ⟨b, off, ha, hb, hne, hc, hr⟩ := h.2 k hk
 exact ⟨b, off, ha, Nat.lt_of_lt_of_le hb hg.size, hne, (World.cell?_of_block (w := w) (hg.block b hb (by simpa using hne))).trans hc, hr⟩

theorem CurAt.lt {w : World} {T p : Nat} {a : Option Addr} {len cap : Nat} {zs : List Int} {i : Nat} {h : Int} (c : CurAt w T p a len cap zs i h) : p < w.heap.size := (Array.getElem?_eq_some_iff.1 c.block).1

theorem CurAt.cells {w : World} {T p : Nat} {a : Option Addr} {len cap : Nat} {zs : List Int} {i : Nat} {h : Int} (c : CurAt w T p a len cap zs i h) :
   w.cell? ⟨p, 0, none⟩ = some (.slice a len cap) ∧ w.cell? ⟨p, 1, none⟩ = some (.int .i64 i) ∧ w.cell? ⟨p, 2, none⟩ = some (.int .i64 h) ∧ w.frozen? ⟨p, 1, none⟩ = false ∧ w.frozen? ⟨p, 2, none⟩ = false := by
 have hb := c.block
 refine ⟨?_, ?_, ?_, ?_, ?_⟩ <;> simp [World.cell?, World.frozen?, hb]



theorem CurAt.seth {w : World} {T p : Nat} {a : Option Addr} {len cap : Nat} {zs : List Int} {i : Nat} {h : Int} (c : CurAt w T p a len cap zs i h) (h' : Int) : CurAt (w.setCell ⟨p, 2, none⟩ (.int .i64 h')) T p a len cap zs i h' := by
 refine ⟨?_, c.bytes.kept (grown_set _ _ _ _), c.le⟩
 rw [set_block _ c.block]
 rfl
theorem CurAt.seti {w : World} {T p : Nat} {a : Option Addr} {len cap : Nat} {zs : List Int} {i : Nat} {h : Int} (c : CurAt w T p a len cap zs i h) (hi : i < len) (v : Value) (hv : v = .int .i64 (i + 1 : Nat)) : CurAt (w.setCell ⟨p, 1, none⟩ v) T p a len cap zs (i + 1) h := by
 subst hv
 refine ⟨?_, c.bytes.kept (grown_set _ _ _ _), hi⟩
 rw [set_block _ c.block]
 rfl
theorem CurAt.drewN {w : World} {T p : Nat} {a : Option Addr} {len cap : Nat} {zs : List Int} {i : Nat} {h : Int} (c : CurAt w T p a len cap zs i h) (n : Nat) : CurAt (w.drewN n) T p a len cap zs i h :=
 ⟨c.block, c.bytes.kept (grown_drewN _ _ _), c.le⟩
theorem CurAt.kept {w w' : World} {T p : Nat} {a : Option Addr} {len cap : Nat} {zs : List Int} {i : Nat} {h : Int} {row : Option Nat} (c : CurAt w T p a len cap zs i h) (hg : w.grownBy w' row) (hp : some p ≠ row) (ha : ∀ x, a = some x → some x.block ≠ row ∨ len = 0) : CurAt w' T p a len cap zs i h := by
 refine ⟨(hg.block p c.lt hp).trans c.block, ⟨c.bytes.1, fun k hk => ?_⟩, c.le⟩
 obtain ⟨b, off, hab, hb, hne, hc, hr⟩ := c.bytes.2 k hk
 have hrow : some b ≠ row := by
   rcases ha _ hab with h | h
   · exact h
   · omega
 exact ⟨b, off, hab, Nat.lt_of_lt_of_le hb hg.size, hne, (World.cell?_of_block (w := w) (hg.block b hb hrow)).trans hc, hr⟩




theorem bytes_of_row {w : World} {a : Option Addr} {len cap : Nat} {zs : List Int} (h : IsRow .u8 w a len cap zs) (p : Nat) (hp : w.heap.size ≤ p) : Bytes w p a len zs := by
 rcases h with ⟨rfl, rfl, rfl, rfl⟩ | ⟨x, rfl, hl, hm, hz, hc, hw⟩
 · exact ⟨by unfold maxLen; omega, fun k hk => by omega⟩
 · refine ⟨by omega, fun k hk => ?_⟩
   obtain ⟨b, off, spot⟩ := x
   have h0 := hc 0 (by omega)
   have hs : spot = none := by simpa [Addr.add] using World.cell?_spot h0
   subst hs
   have hk' := hc k (by omega)
   have e : (⟨b, off, none⟩ : Addr).add k = ⟨b, off + k, none⟩ := by
     unfold Addr.add; split
     · subst_vars; rfl
     · rfl
   rw [e] at hk'
   have hb := cell_lt hk'
   have hmem : zs.getD k 0 ∈ zs := by rw [List.getD_eq_getElem?_getD, List.getElem?_eq_getElem (by omega)]; exact List.getElem_mem _
   exact ⟨b, off, rfl, hb, by simp only at hb; omega, hk', wf_u8 (hw _ hmem)⟩

theorem cur_new {w : World} {a : Option Addr} {len cap T : Nat} {zs : List Int} {h : Int} (hr : Bytes w w.heap.size a len zs) :
   CurAt (w.alloc (.cells #[.slice a len cap, .int .i64 0, .int .i64 h] T)) T w.heap.size a len cap zs 0 h := by
 refine ⟨?_, ⟨hr.1, fun k hk => ?_⟩, Nat.zero_le _⟩
 · show (w.heap.push _)[w.heap.size]? = _
   rw [Array.getElem?_push, if_pos rfl]; rfl
 · obtain ⟨b, off, ha, hb, hne, hc, hr2⟩ := hr.2 k hk
   exact ⟨b, off, ha, by simp; omega, hne, (World.cell?_of_block (w := w) (Below.heap_alloc _ _ _ hb)).trans hc, hr2⟩
theorem grown_of_below {w w' : World} (h : Below w.heap.size w w') : w.grownBy w' none := ⟨h.os, h.tape, h.output, h.size, fun j hj _ => h.block j hj⟩
theorem CurAt.below {w w' : World} {T p : Nat} {a : Option Addr} {len cap : Nat} {zs : List Int} {i : Nat} {h : Int} (c : CurAt w T p a len cap zs i h) (hb : Below w.heap.size w w') : CurAt w' T p a len cap zs i h :=
 c.kept (grown_of_below hb) (by simp) (fun _ _ => Or.inl (by simp))
theorem CurAt.new {w : World} {T p : Nat} {a : Option Addr} {len cap : Nat} {zs : List Int} {i : Nat} {h : Int} (c : CurAt w T p a len cap zs i h) (o : Obj) : CurAt (w.alloc o) T p a len cap zs i h := c.kept (World.grownBy_alloc _ _ none) (by simp) (fun _ _ => Or.inl (by simp))
theorem below_bytes {w w1 : World} {a : Option Addr} {len : Nat} {zs : List Int} (hr : Bytes w w.heap.size a len zs) (hb : Below w.heap.size w w1) : Bytes w1 w1.heap.size a len zs := by
 refine ⟨hr.1, fun k hk => ?_⟩
 obtain ⟨b, off, ha, hlt, hne, hc, hr2⟩ := hr.2 k hk
 have := hb.size
 exact ⟨b, off, ha, by omega, by omega, (hb.cell (p := ⟨b, off + k, none⟩) hlt).trans hc, hr2⟩
def OwnC (B : Nat) (w : World) (v : Value) (ys : List Cel) : Prop := w.ownsRow B 41 5 v ys.length (ys.flatMap celCells)
theorem OwnC.row {B : Nat} {w : World} {a : Option Addr} {n c : Nat} {ys : List Cel} (h : OwnC B w (.slice a n c) ys) : CelRow w a n c ys := by
 rcases h.2 with ⟨h0, hn⟩ | ⟨g, cap, cur, h1, _, h3, hc, _, hs, ht⟩
 · cases h0
   refine ⟨hn, Nat.le_refl _, fun k y hk => ?_⟩
   have := (List.getElem?_eq_some_iff.1 hk).1
   omega
 · cases h1
   refine ⟨rfl, hc, fun k y hk => ⟨g, rfl, ?_⟩⟩
   have hk' := (List.getElem?_eq_some_iff.1 hk).1
   have hj : ∀ j, j < 5 → w.cell? ⟨g, k * 5 + j, none⟩ = (celCells y)[j]? := fun j hj => by
     have h1 := cel_cell ys k j y hk hj
     rw [← ht, List.getElem?_take, if_pos (by omega)] at h1
     simp only [World.cell?, h3]
     simpa using h1
   exact ⟨hj 0 (by omega), hj 1 (by omega), hj 2 (by omega), hj 3 (by omega), hj 4 (by omega)⟩
theorem OwnC.grown {B p : Nat} {w w' : World} {v : Value} {ys : List Cel} (h : OwnC B w v ys) (hg : w.grownBy w' (some p)) (hp : p < B) : OwnC B w' v ys := by
 refine World.ownsRow.kept h hg ?_
 cases hv : v.ownBlock with
 | none => exact .inl rfl
 | some k =>
   refine .inr (fun e => ?_)
   have := (h.lt k hv).1
   cases e
   omega
theorem OwnC.below {B : Nat} {w w' : World} {v : Value} {ys : List Cel} (h : OwnC B w v ys) (hb : Below w.heap.size w w') : OwnC B w' v ys := by
 refine World.ownsRow.kept h (grown_of_below hb) ?_
 cases hv : v.ownBlock <;> simp
theorem OwnC.new {B : Nat} {w : World} {v : Value} {ys : List Cel} (h : OwnC B w v ys) (o : Obj) : OwnC B (w.alloc o) v ys := World.ownsRow.alloc h o
theorem OwnC.lt {B : Nat} {w : World} {v : Value} {ys : List Cel} (h : OwnC B w v ys) {k : Nat} (hk : v.ownBlock = some k) : B ≤ k ∧ k < w.heap.size := World.ownsRow.lt h k hk
theorem own_base {B B' : Nat} {w : World} {v : Value} {ys : List Cel} (h : OwnC B w v ys) (hb : B' ≤ B) : OwnC B' w v ys := by
 refine ⟨h.1, ?_⟩
 rcases h.2 with h2 | ⟨g, cap, cur, h1, h2, r⟩
 · exact .inl h2
 · exact .inr ⟨g, cap, cur, h1, Nat.le_trans hb h2, r⟩
theorem celCells_one (ys : List Cel) : ∀ u ∈ ys.flatMap celCells, u.oneCell' = true := by
 intro u hu
 obtain ⟨y, _, hy⟩ := List.mem_flatMap.1 hu
 simp only [celCells, List.mem_cons, List.not_mem_nil, or_false] at hy
 rcases hy with rfl | rfl | rfl | rfl | rfl <;> rfl

theorem op_pushC {B : Nat} {w : World} {v : Value} {xs : List Cel} (ys : List Cel) {ad : Addr} {c : Nat} {o : Oper} {act : Act} {K : Act → World → Prop} {Q : Exit → Act → World → Prop} (s x : Operand)
   (hop : o.op = .call { callee := .builtin .append, args := #[s, x], argTypes := #[24, 24] })
   (hs : act.eval s = v) {m : Nat} (hx : act.eval x = .slice (some ad) m c) (hm : ys.length = m) (hb : ∀ j u, (ys.flatMap celCells)[j]? = some u → w.cell? (ad.add j) = some u) (h : OwnC B w v xs) (hB : B ≤ w.heap.size) (hl : xs.length + ys.length < 1000)
   (hk : ∀ v' w', OwnC B w' v' (xs ++ ys) → w.grownBy w' v.ownBlock → K (act.put o.dst v') w') : o.wp Tryz.prog act w K Q := by
 subst hm
 obtain ⟨ti, hti, hz0, hz1, hz2⟩ := info_parts infoCel
 refine wp_append_own _ s x 24 hop B 41 ti (.agg #[.string ⟨#[]⟩, .string ⟨#[]⟩, .int .i64 0, .bool false, .string ⟨#[]⟩]) 5 64 Tryz.underlying24 hti hz0 hz1 hz2 rfl (by decide) v xs.length (xs.flatMap celCells) hs h
   ad ys.length c (ys.flatMap celCells) hx (celCells_len ys) hb (celCells_one ys) (by unfold maxLen; omega) (by omega) hB ?_
 intro v' w' hown hg _
 refine hk v' w' ?_ hg
 unfold OwnC
 rw [List.length_append, List.flatMap_append]
 exact hown
theorem implPutVar_as (n : Int) (A : ByteArray) (hA : A.data.toList = putVar n) (w : World) : Calls Tryz.prog 93 #[.int .i64 n] w (Same w A) :=
 (implPutVar n w).mono fun e w' ⟨h1, h2⟩ => ⟨by rw [h1, as_text hA], h2⟩
theorem specPutVar_as (n : Int) (A : ByteArray) (hA : A.data.toList = putVar n) (w : World) : Calls Tryz.prog 57 #[.int .i64 n] w (Same w A) :=
 (specPutVar n w).mono fun e w' ⟨h1, h2⟩ => ⟨by rw [h1, as_text hA], h2⟩
set_option maxHeartbeats 400000 in
theorem specShared (a b : ByteArray) (w : World) (ha : a.size ≤ maxLen) (hb : b.size ≤ maxLen) :
   Calls Tryz.prog 83 #[.string a, .string b] w fun e w' => e = .returned (.int .i64 (shared a.data.toList b.data.toList)) ∧ ∃ n, w' = w.drewN n := by
 unfold maxLen at ha hb
 go_enter Tryz.func83, Tryz.ntmps83
 go_wp2
 go_loopw [5] (fun i wr => ∃ k : Nat, k ≤ a.size ∧ k ≤ b.size ∧ i = .int .i64 k ∧ Hid (∀ j, j < k → a.data.toList[j]? = b.data.toList[j]?) ∧ ∃ n, wr = w.drewN n) (fun i _ => a.size - (intOf i).toNat)
 case atStart => exact ⟨0, Nat.zero_le _, Nat.zero_le _, rfl, fun j hj => absurd hj (by omega), 0, rfl⟩
 case round =>
   obtain ⟨k, hka, hkb, rfl, HL, n, rfl⟩ := hrel
   by_cases h1 : k < a.size
   · by_cases h2 : k < b.size
     · have i1 : (k : Int) < (a.size : Int) := by omega
       have i2 : (k : Int) < (b.size : Int) := by omega
       go_wp2
       go_quiet (fail)
       go_wp2
       · go_roundw
         case rel => exact ⟨k + 1, by omega, by omega, by go_num, alike_succ h1 h2 HL.out (bne_of_beq ‹_›), _, rfl⟩
         case measure => simp [intOf]; omega
       · go_ret
         exact ⟨ret_int (by rw [sharedParts h1 h2 HL.out (bne_of_nbeq ‹_›)]), n + nq, World.drewN_drewN _ _ _⟩
     · have hd : decide (k < b.size) = false := by simpa using h2
       go_wp2
       go_quiet (fail)
       go_wp2
       go_ret
       exact ⟨ret_int (by rw [sharedEnds hka hkb HL.out (by omega)]), n + nq, World.drewN_drewN _ _ _⟩
   · have hd : decide (k < a.size) = false := by simpa using h1
     go_wp2
     go_quiet (fail)
     go_wp2
     go_ret
     exact ⟨ret_int (by rw [sharedEnds hka hkb HL.out (by omega)]), n + nq, World.drewN_drewN _ _ _⟩
def Cel5O (w : World) (g m : Nat) (y : Cel) : Prop :=
 w.cell? ⟨g, m, none⟩ = some (.string y.row) ∧ w.cell? ⟨g, m + 1, none⟩ = some (.string y.col) ∧ w.cell? ⟨g, m + 2, none⟩ = some (.int .i64 y.time) ∧ w.cell? ⟨g, m + 3, none⟩ = some (.bool y.gone) ∧ w.cell? ⟨g, m + 4, none⟩ = some (.string y.value)
theorem Cel5O.below {w w' : World} {g m : Nat} {y : Cel} (h : Cel5O w g m y) (hb : Below w.heap.size w w') : Cel5O w' g m y := by
 have hA := cell_lt h.1
 obtain ⟨h0, h1, h2, h3, h4⟩ := h
 exact ⟨(hb.cell (p := ⟨g, m, none⟩) hA).trans h0, (hb.cell (p := ⟨g, m + 1, none⟩) hA).trans h1, (hb.cell (p := ⟨g, m + 2, none⟩) hA).trans h2, (hb.cell (p := ⟨g, m + 3, none⟩) hA).trans h3, (hb.cell (p := ⟨g, m + 4, none⟩) hA).trans h4⟩
theorem Cel5O.lt {w : World} {g m : Nat} {y : Cel} (h : Cel5O w g m y) : g < w.heap.size := cell_lt h.1
def CelRowO (w : World) (a : Option Addr) (n c : Nat) (xs : List Cel) : Prop := xs.length = n ∧ n ≤ c ∧ ∀ (k : Nat) (y : Cel), xs[k]? = some y → ∃ g off, a = some ⟨g, off, none⟩ ∧ Cel5O w g (off + k * 5) y
theorem CelRowO.below {w w' : World} {a : Option Addr} {n c : Nat} {xs : List Cel} (h : CelRowO w a n c xs) (hb : Below w.heap.size w w') : CelRowO w' a n c xs :=
 ⟨h.1, h.2.1, fun k y hk => by obtain ⟨g, off, e, hc⟩ := h.2.2 k y hk; exact ⟨g, off, e, hc.below hb⟩⟩
theorem CelRow.o {w : World} {a : Option Addr} {n c : Nat} {xs : List Cel} (h : CelRow w a n c xs) : CelRowO w a n c xs :=
 ⟨h.1, h.2.1, fun k y hk => by
   obtain ⟨g, e, hc⟩ := h.2.2 k y hk
   refine ⟨g, 0, e, ?_⟩
   rw [Nat.zero_add]
   exact hc⟩
theorem empty_iff (V : ByteArray) : V.data.toList.isEmpty = V.toList.isEmpty := by rw [ByteArray.toList_eq]
theorem cellOk_form (R C : ByteArray) (T : Int) (G : Bool) (V : ByteArray) : cellOk ⟨R, C, T, G, V⟩ = (nameOk R.data.toList && nameOk C.data.toList && timeOk T && decide (V.size ≤ 30) && (!G || V.toList.isEmpty)) := by
 unfold cellOk; rw [empty_iff]
theorem box_below (w : World) (o : Obj) (n : Nat) : Below w.heap.size w ((w.alloc o).drewN n) := ((Below.refl _ w).alloc (Nat.le_refl _) o).trans (below_draws n)

set_option maxHeartbeats 2000000 in
theorem implCellOk (R C : ByteArray) (T : Int) (G : Bool) (V : ByteArray) (hR : R.size ≤ maxLen) (hC : C.size ≤ maxLen) (w : World) :
   Calls Tryz.prog 81 #[.agg #[.string R, .string C, .int .i64 T, .bool G, .string V]] w fun e w' => e = .returned (.bool (cellOk ⟨R, C, T, G, V⟩)) ∧ Below w.heap.size w w' := by
 rw [cellOk_form]
 obtain ⟨r, hr⟩ : ∃ r, nameOk R.data.toList = r := ⟨_, rfl⟩
 obtain ⟨c, hc⟩ : ∃ c, nameOk C.data.toList = c := ⟨_, rfl⟩
 obtain ⟨t, ht⟩ : ∃ t, timeOk T = t := ⟨_, rfl⟩
 rw [hr, hc, ht]
 have HN := Lib.hid (And.intro hr (And.intro hc ht))
 clear hr hc ht
 obtain ⟨m, hm⟩ : ∃ m, V.toList.isEmpty = m := ⟨_, rfl⟩
 rw [hm]
 have key : (G = true ∧ m = false) ∨ (!G || m) = true := by cases G <;> cases m <;> simp
 rcases key with ⟨rfl, rfl⟩ | hg
 · go_enter Tryz.func81, Tryz.ntmps81
   go_wp2
   go_ret
   exact ⟨ret_bool (by simp), box_below _ _ 0⟩
 · rw [hg]
   have walk : ∀ (G : Bool), (!G || m) = true → Calls Tryz.prog 81 #[.agg #[.string R, .string C, .int .i64 T, .bool G, .string V]] w fun e w' => e = .returned (.bool (r && c && t && decide (V.size ≤ 30) && true)) ∧ Below w.heap.size w w' := by
     intro G hg
     have hk : G = false ∨ (G = true ∧ m = true) := by cases G <;> cases m <;> simp_all
     clear hg
     rcases hk with rfl | ⟨rfl, rfl⟩
     all_goals
       go_enter Tryz.func81, Tryz.ntmps81
       go_wp2_with fail
       refine (implName R hR _).mono ?_
       rw [HN.out.1]
       rintro e w1 ⟨rfl, n1, rfl⟩
       cases r
       · go_wp2
         go_ret
         exact ⟨ret_bool (by simp), box_below _ _ _⟩
       go_wp2_with fail
       refine (implName C hC _).mono ?_
       rw [HN.out.2.1]
       rintro e w1 ⟨rfl, n2, rfl⟩
       cases c
       · go_wp2
         go_ret
         exact ⟨ret_bool (by simp), box_below _ _ _⟩
       go_wp2_with fail
       refine (implTime T _).mono ?_
       rw [HN.out.2.2]
       rintro e w1 ⟨rfl, rfl⟩
       cases t
       · go_wp2
         go_ret
         exact ⟨ret_bool (by simp), box_below _ _ _⟩
       go_wp2
       go_ret
       exact ⟨ret_bool (by simp; omega), box_below _ _ _⟩
   exact walk G hg
set_option maxHeartbeats 2000000 in
theorem specCellOk (R C : ByteArray) (T : Int) (G : Bool) (V : ByteArray) (hR : R.size ≤ maxLen) (hC : C.size ≤ maxLen) (w : World) :
   Calls Tryz.prog 98 #[.agg #[.string R, .string C, .int .i64 T, .bool G, .string V]] w fun e w' => e = .returned (.bool (cellOk ⟨R, C, T, G, V⟩)) ∧ Below w.heap.size w w' := by
 rw [cellOk_form]
 obtain ⟨r, hr⟩ : ∃ r, nameOk R.data.toList = r := ⟨_, rfl⟩
 obtain ⟨c, hc⟩ : ∃ c, nameOk C.data.toList = c := ⟨_, rfl⟩
 obtain ⟨t, ht⟩ : ∃ t, timeOk T = t := ⟨_, rfl⟩
 rw [hr, hc, ht]
 have HN := Lib.hid (And.intro hr (And.intro hc ht))
 clear hr hc ht
 obtain ⟨m, hm⟩ : ∃ m, V.toList.isEmpty = m := ⟨_, rfl⟩
 rw [hm]
 go_enter Tryz.func98, Tryz.ntmps98
 go_wp2_with fail
 refine (specName R hR _).mono ?_
 rw [HN.out.1]
 rintro e w1 ⟨rfl, n1, rfl⟩
 cases r
 · go_wp2
   go_ret
   exact ⟨ret_bool (by simp), box_below _ _ _⟩
 go_wp2_with fail
 refine (specName C hC _).mono ?_
 rw [HN.out.2.1]
 rintro e w1 ⟨rfl, n2, rfl⟩
 cases c
 · go_wp2
   go_ret
   exact ⟨ret_bool (by simp), box_below _ _ _⟩
 go_wp2_with fail
 refine (specTime T _).mono ?_
 rw [HN.out.2.2]
 rintro e w1 ⟨rfl, rfl⟩
 cases t
 · go_wp2
   go_ret
   exact ⟨ret_bool (by simp), box_below _ _ _⟩
 by_cases hv : V.size ≤ 30
 · cases G
   · go_wp2
     go_ret
     exact ⟨ret_bool (by simp; omega), box_below _ _ _⟩
   · cases m
     · go_wp2
       go_ret
       exact ⟨ret_bool (by simp), box_below _ _ _⟩
     · go_wp2
       go_ret
       exact ⟨ret_bool (by simp; omega), box_below _ _ _⟩
 · go_wp2
   go_ret
   exact ⟨ret_bool (by simp), box_below _ _ _⟩
set_option maxHeartbeats 400000 in
theorem implBefore (a b : ByteArray) (w : World) :
   Calls Tryz.prog 80 #[.string a, .string b] w fun e w' => e = .returned (.bool (ahead a.data.toList b.data.toList)) ∧ ∃ n, w' = w.drewN n := by
 go_enter Tryz.func80, Tryz.ntmps80
 go_wp2
 go_ret
 exact ⟨ret_bool (by rw [← ahead_less]; rw [ByteArray.toList_eq, ByteArray.toList_eq]), 0, rfl⟩

set_option maxHeartbeats 400000 in
theorem specBefore (a b : ByteArray) (w : World) (ha : a.size ≤ maxLen) (hb : b.size ≤ maxLen) :
   Calls Tryz.prog 37 #[.string a, .string b] w fun e w' => e = .returned (.bool (ahead a.data.toList b.data.toList)) ∧ ∃ n, w' = w.drewN n := by
 go_enter Tryz.func37, Tryz.ntmps37
 go_wp2_with fail
 refine (specShared a b _ ha hb).mono ?_
 rintro e w1 ⟨rfl, n1, rfl⟩
 have l1 := shared_le_left a.data.toList b.data.toList
 have l2 := shared_le_right a.data.toList b.data.toList
 have HA := Lib.hid (ahead_def a.data.toList b.data.toList)
 obtain ⟨k, hk⟩ : ∃ k, shared a.data.toList b.data.toList = k := ⟨_, rfl⟩
 rw [hk] at HA l1 l2 ⊢
 clear hk
 simp only [Array.length_toList, ByteArray.size_data] at l1 l2
 go_wp2_with fail
 · have h1 : k < a.size := by assumption
   have h2 : k < b.size := by assumption
   have i1 : (k : Int) < (a.size : Int) := by omega
   have i2 : (k : Int) < (b.size : Int) := by omega
   go_quiet (fail)
   go_wp2
   go_ret
   refine ⟨ret_bool ?_, _, World.drewN_drewN _ _ _⟩
   rw [HA.out, if_pos ⟨by simpa using h1, by simpa using h2⟩, List.getD_eq_getElem?_getD, List.getD_eq_getElem?_getD, byte_at a k h1, byte_at b k h2]
   simp
 · have h2 : ¬ k < b.size := by assumption
   go_ret
   exact ⟨ret_bool (by rw [HA.out, if_neg (by simp; omega)]; simp), n1, rfl⟩
 · have h1 : ¬ k < a.size := by assumption
   go_ret
   exact ⟨ret_bool (by rw [HA.out, if_neg (by simp; omega)]; simp), n1, rfl⟩
theorem fixVal_up (s : ByteArray) (a b k : Nat) (hb : k < b) (h : a + b ≤ s.size) : fixVal (((s.data.toList.drop a).take b).drop k) = fixVal (((s.data.toList.drop a).take b).drop (k + 1)) * 256 + s[a + k].toNat := by
 have hk : k < ((s.data.toList.drop a).take b).length := by simp; omega
 rw [List.drop_eq_getElem_cons hk, fixVal]
 have e : ((s.data.toList.drop a).take b)[k] = s[a + k] := by rw [List.getElem_take, List.getElem_drop]; rfl
 rw [e]
 omega
theorem fixVal_up_lt (l : List UInt8) (b k : Nat) (hb : b ≤ 4) (hk : 1 ≤ k) : fixVal ((l.take b).drop k) < 16777216 := by
 refine Nat.lt_of_lt_of_le (fixVal_lt _) ?_
 have : ((l.take b).drop k).length ≤ 3 := by rw [List.length_drop, List.length_take]; omega
 have h2 : 2 ^ (8 * ((l.take b).drop k).length) ≤ 2 ^ 24 := Nat.pow_le_pow_right (by omega) (by omega)
 exact h2

set_option maxHeartbeats 400000 in
theorem specGetFix (s : ByteArray) (a b : Int) (w : World) (hs : s.size ≤ maxLen) (ha : -9223372036854775808 ≤ a ∧ a ≤ 9223372036854775807) :
   Calls Tryz.prog 66 #[.string s, .int .i64 a, .int .i64 b] w (IntIs w (getFix s.data.toList a b)) := by
 unfold maxLen at hs
 have hl : s.data.toList.length = s.size := by simp
 by_cases hb : b < 1 ∨ 4 < b
 · have HR := Lib.hid (getFix_no (l := s.data.toList) (a := a) (b := b) (by rw [hl]; omega))
   have HB := Lib.hid hb
   clear hb hl
   go_enter Tryz.func66, Tryz.ntmps66
   go_wp2_with fail
   refine (specIn_no _ _ _ _ HB.out).mono ?_
   rintro e w1 ⟨rfl, rfl⟩
   go_wp2
   go_ret
   exact ⟨ret_int HR.out.symm, Below.refl _ _⟩
 · obtain ⟨b, rfl⟩ := Int.eq_ofNat_of_zero_le (by omega : 0 ≤ b)
   have h1 : 1 ≤ b := by omega
   have h4 : b ≤ 4 := by omega
   by_cases hn : a < 0 ∨ s.size - b < a
   · have HR := Lib.hid (getFix_no (l := s.data.toList) (a := a) (b := b) (by rw [hl]; omega))
     clear hb hl
     by_cases h0 : a < 0
     · clear hn
       go_enter Tryz.func66, Tryz.ntmps66
       go_wp2_with fail
       refine (specIn_yes _ _ _ _ (by omega) (by omega)).mono ?_
       rintro e w1 ⟨rfl, rfl⟩
       go_wp2
       go_ret
       exact ⟨ret_int HR.out.symm, Below.refl _ _⟩
     · have h2 : (s.size : Int) - (b : Int) < a := by omega
       clear hn
       go_enter Tryz.func66, Tryz.ntmps66
       go_wp2_with fail
       refine (specIn_yes _ _ _ _ (by omega) (by omega)).mono ?_
       rintro e w1 ⟨rfl, rfl⟩
       go_wp2
       go_ret
       exact ⟨ret_int HR.out.symm, Below.refl _ _⟩
   · obtain ⟨a, rfl⟩ := Int.eq_ofNat_of_zero_le (by omega : 0 ≤ a)
     have h5 : a + b ≤ s.size := by omega
     have h6 : (a : Int) ≤ (s.size : Int) - (b : Int) := by omega
     have HR := Lib.hid (getFix_yes (l := s.data.toList) h1 h4 (by rw [hl]; exact h5))
     clear hn hl hb
     go_enter Tryz.func66, Tryz.ntmps66
     go_wp2_with fail
     refine (specIn_yes _ _ _ _ (by omega) (by omega)).mono ?_
     rintro e w1 ⟨rfl, rfl⟩
     go_wp2_with fail
     go_loop [7, 8] (fun n i => ∃ k : Nat, k ≤ b ∧ i = .int .i64 ((k : Int) - 1) ∧ n = .int .i64 (fixVal (((s.data.toList.drop a).take b).drop k))) (fun _ i => ((intOf i) + 1).toNat)
     case atStart => exact ⟨b, Nat.le_refl _, rfl, by rw [List.drop_of_length_le (List.length_take_le _ _)]; rfl⟩
     case round =>
       obtain ⟨k, hk, rfl, rfl⟩ := hrel
       cases k with
       | zero =>
         go_wp2
         go_ret
         exact ⟨ret_int (by rw [HR.out]), Below.refl _ _⟩
       | succ k =>
         have HU := Lib.hid (fixVal_up s a b k (by omega) h5)
         have hu := fixVal_up_lt (s.data.toList.drop a) b (k + 1) h4 (by omega)
         have hc := s[a + k].toNat_lt
         have e1 : ((k + 1 : Nat) : Int) - 1 = (k : Int) := by omega
         rw [e1]
         clear e1
         have i1 : (a : Int) + (k : Int) < (s.size : Int) := by omega
         have i2 : ((a : Int) + (k : Int)).toNat = a + k := by omega
         go_wp2
         go_round
         case rel => exact ⟨k, by omega, rfl, congrArg (Value.int IntKind.i64) (by rw [HU.out]; omega)⟩
         case measure => simp [intOf]
def KeyAt (W : World) (v : Value) (k : List UInt8) : Prop :=
 (v = .slice none 0 0 ∧ k = []) ∨ ∃ g cap cur, v = .slice (some ⟨g, 0, none⟩) k.length cap ∧ W.heap[g]? = some (.cells cur 5 (0, 0)) ∧ k.length ≤ cap ∧ cap ≤ cur.size ∧ cur.toList.take k.length = k.map u8v
theorem KeyAt.form {W : World} {v : Value} {k : List UInt8} (h : KeyAt W v k) : ∃ ad cap, v = .slice ad k.length cap ∧ k.length ≤ cap := by
 rcases h with ⟨rfl, rfl⟩ | ⟨g, cap, cur, rfl, _, h, _⟩
 · exact ⟨none, 0, rfl, Nat.le_refl _⟩
 · exact ⟨_, cap, rfl, h⟩
theorem KeyAt.keep {W W' : World} {v : Value} {k : List UInt8} (h : KeyAt W v k) (hk : ∀ (g : Nat) (cur : Array Value), W.heap[g]? = some (Obj.cells cur 5 (0, 0)) → W'.heap[g]? = some (Obj.cells cur 5 (0, 0))) : KeyAt W' v k := by
 rcases h with h | ⟨g, cap, cur, h1, h2, r⟩
 · exact .inl h
 · exact .inr ⟨g, cap, cur, h1, hk g cur h2, r⟩
theorem KeyAt.below {W W' : World} {v : Value} {k : List UInt8} (h : KeyAt W v k) (hb : Below W.heap.size W W') : KeyAt W' v k := h.keep (fun g cur hg => (hb.block g (Array.getElem?_eq_some_iff.1 hg).1).trans hg)
theorem take_u8 {cur : List Value} {k : List UInt8} (h : cur.take k.length = k.map u8v) {s : Nat} (hs : s ≤ k.length) : cur.take s = (k.take s).map u8v := by
 have := congrArg (List.take s) h
 rwa [List.take_take, Nat.min_eq_left hs, ← List.map_take] at this
theorem cur_cell {W : World} {g : Nat} {cur : Array Value} {xs : List Value} {n : Nat} (hg : W.heap[g]? = some (.cells cur 5 (0, 0))) (h : cur.toList.take n = xs) : ∀ j v, xs[j]? = some v → W.cell? ((⟨g, 0, none⟩ : Addr).add j) = some v := by
 intro j v hj
 have e : (⟨g, 0, none⟩ : Addr).add j = ⟨g, j, none⟩ := by
   unfold Addr.add; split
   · subst_vars; rfl
   · simp
 rw [e]
 rw [← h, List.getElem?_take] at hj
 split at hj
 · simp only [World.cell?, hg]
   simpa using hj
 · cases hj
theorem keyAt_text {W : World} {v : Value} {k : List UInt8} (h : KeyAt W v k) : (convert 22 9 v).run Tryz.prog W = .ok (.string ⟨k.toArray⟩) W := by
 rcases h with ⟨rfl, rfl⟩ | ⟨g, cap, cur, rfl, hg, _, _, ht⟩
 · exact run_convert_bytes_nil (P := Tryz.prog) W 22 5 Tryz.underlying22 Tryz.underlying5 0 0 9 Tryz.underlying9
 · refine str_of_cells k rfl (fun j hj => ?_)
   have := cur_cell hg ht j (u8v (k.getD j 0)) (by simp [List.getElem?_eq_getElem hj])
   have e : (⟨g, 0, none⟩ : Addr).add j = ⟨g, j, none⟩ := by
     unfold Addr.add; split
     · subst_vars; rfl
     · simp
   rwa [e] at this
theorem cut_run (W : World) (ad : Option Addr) (n cap s : Nat) (h1 : s ≤ n) (h2 : n ≤ cap) : (Instr.sliceAt 22 (.slice ad n cap) none (some (.int .i64 s)) (some (.int .i64 s))).run Tryz.prog W = .ok (.slice ad s s) W := by
 have q1 : (s : Int) ≤ (cap : Int) := by omega
 have q2 : s ≤ cap := by omega
 have hu := run_underlying (P := Tryz.prog) (w := W) Tryz.underlying22
 obtain ⟨ti, hti, hz0, hz1, hz2⟩ := info_parts infoB
 have ha : ∀ x : Addr, x.add 0 = x := fun x => by unfold Addr.add; simp
 cases ad <;> simp [Instr.sliceAt, Instr.slice, Instr.sliceBounds, Instr.sliceBound, hu, asIntOf, sizeOf, typeInfo, hti, q2, ha]
theorem key_push {W : World} {ad : Option Addr} {cap : Nat} {k : List UInt8} (h : KeyAt W (.slice ad k.length cap) k) {s : Nat} (hs : s ≤ k.length) (X : ByteArray) (hl : s + X.size < 1000000000) :
   ∃ v' w', (Builtin.append_ #[22, 9] 22 #[.slice ad s s, .string X]).run Tryz.prog W = .ok v' w' ∧ KeyAt w' v' (k.take s ++ X.data.toList) ∧ Below W.heap.size W w' := by
 obtain ⟨ti, hti, hz0, hz1, hz2⟩ := info_parts infoB
 have hxl : X.data.toList.length = X.size := by simp
 rcases h with ⟨h0, rfl⟩ | ⟨g, cap', cur, h0, hg, h1, h2, h3⟩
 · cases h0
   obtain rfl : s = 0 := by simpa using hs
   obtain ⟨v', w', hr, h2, h3, _⟩ := Lib.run_append_own_string (P := Tryz.prog) W W.heap.size 22 9 22 5 ti Tryz.underlying22 Tryz.underlying9 hti hz0 hz1 hz2 (.slice none 0 0) 0 [] (World.ownsRow_nil _ _ _ _) X (by unfold maxLen; omega) (by omega) (Nat.le_refl _)
   refine ⟨v', w', hr, ?_, h3.os, h3.tape, h3.output, h3.size, fun j hj => h3.block j hj (fun e => by cases e)⟩
   rw [strCells_u8] at h2
   rcases h2.2 with ⟨e1, e2⟩ | ⟨g, cp, cur, e1, e2, e3, e4, e5, e6, e7⟩
   · refine .inl ⟨e1, ?_⟩
     have : X.data.toList = [] := List.eq_nil_of_length_eq_zero (by omega)
     simp [this]
   · refine .inr ⟨g, cp, cur, ?_, e3, ?_, ?_, ?_⟩
     · rw [e1]; simp [hxl]
     · simpa [hxl] using e4
     · rw [e6]; simp
     · simpa [hxl] using e7
 · cases h0
   have hcs : cur.toList.take s = (k.take s).map u8v := take_u8 h3 hs
   have hkl : (k.take s).length = s := by rw [List.length_take]; omega
   by_cases hX : X.size = 0
   · have hX0 : X.data.toList = [] := List.eq_nil_of_length_eq_zero (by omega)
     have hr := Lib.run_append_room_string (P := Tryz.prog) W 22 9 22 5 ti Tryz.underlying22 Tryz.underlying9 hti hz1 g s s cur hg X (by omega) (by omega)
     have e0 : (cur.toList.take s ++ Lib.strCells X ++ cur.toList.drop (s + X.size)).toArray = cur := by
       have : Lib.strCells X = [] := List.eq_nil_of_length_eq_zero (by rw [Lib.strCells_length, hX])
       rw [this, hX, List.append_nil, Nat.add_zero, List.take_append_drop]
     rw [e0, setRow_self W g cur _ _ hg, hX, Nat.add_zero] at hr
     refine ⟨_, W, hr, .inr ⟨g, s, cur, ?_, hg, ?_, by omega, ?_⟩, Below.refl _ _⟩
     · rw [hX0, List.append_nil, hkl]
     · rw [hX0, List.append_nil, hkl]; exact Nat.le_refl _
     · rw [hX0, List.append_nil, hkl]; exact hcs
   · have hr := Lib.run_append_grow_string (P := Tryz.prog) W 22 9 22 5 ti (.int .u8 0) Tryz.underlying22 Tryz.underlying9 hti hz0 ⟨g, 0, none⟩ s s ((k.take s).map u8v) (by rw [hz1, List.length_map, hkl, Nat.mul_one]) (cur_cell hg hcs) X (by omega) (by omega) (by rw [hz2]; exact growslice_fits (by omega) (by omega))
     refine ⟨_, _, hr, .inr ⟨W.heap.size, grownCap W (s + X.size) s 5, _, ?_, alloc_at W.drew _, ?_, ?_, ?_⟩, ((Below.refl _ W).drew).alloc (Nat.le_refl _) _⟩
     · rw [List.length_append, hkl, hxl]
     · rw [List.length_append, hkl, hxl]
       exact grownCap_ge _ _ _ _
     · simp [Lib.strCells_length, Builtin.zeroCells, Value.cells]
       have := grownCap_ge W (s + X.size) s 5
       omega
     · rw [List.length_append, hkl, hxl, strCells_u8]
       simp only [Array.toList_append, List.append_assoc]
       rw [← List.append_assoc, ← List.map_append, List.take_left' (by rw [List.length_map, List.length_append, hkl, hxl])]
theorem op_key {w : World} {ad : Option Addr} {cap sh : Nat} {key : List UInt8} (X : ByteArray) {o : Oper} {act : Act} {K : Act → World → Prop} {Q : Exit → Act → World → Prop} (s x : Operand)
   (hop : o.op = .call { callee := .builtin .append, args := #[s, x], argTypes := #[22, 9] }) (hty : o.type = 22)
   (hs : act.eval s = .slice ad sh sh) (hx : act.eval x = .string X) (t : KeyAt w (.slice ad key.length cap) key) (hsh : sh ≤ key.length) (hl : sh + X.size < 1000000000)
   (hk : ∀ v' w', KeyAt w' v' (key.take sh ++ X.data.toList) → Below w.heap.size w w' → K (act.put o.dst v') w') : o.wp Tryz.prog act w K Q := by
 obtain ⟨v', w', hr, h2, h3⟩ := key_push t hsh X hl
 unfold Oper.wp execOp
 simp only [hop, hty, resolve, invoke, builtin, Sem.run_bind, Sem.run_pure, Result.andThen_ok, List.map_toArray, List.map_cons, List.map_nil, hs, hx, hr]
 exact hk _ _ h2 h3
def AbidesT {α : Type} (T : TypeId) (B : Nat) (J : List α → World → Prop) : Prop :=
 ∀ s W W' row, J s W → W.grownBy W' row → (∀ r, row = some r → B ≤ r ∧ ∃ cs fz, W.heap[r]? = some (Obj.cells cs T fz)) → J s W'
theorem keptT {T : TypeId} {W W' : World} {row : Option Nat} (hg : W.grownBy W' row) (hr : ∀ r, row = some r → ∃ cs fz, W.heap[r]? = some (Obj.cells cs T fz)) {k : Nat} {o : Obj} (hk : W.heap[k]? = some o) (hn : ∀ cs fz, o ≠ .cells cs T fz) : W'.heap[k]? = some o :=
 (hg.block k (Array.getElem?_eq_some_iff.1 hk).1 (fun e => by
   obtain ⟨cs, fz, h⟩ := hr k e.symm
   rw [hk] at h
   cases h
   exact hn _ _ rfl)).trans hk
def RoundEnd (l : Nat) (r : Loop) (G S : World → Prop) : Exit → Act → World → Prop
 | .normal, _, W => W.heap[l]? = some (.loop { r with state := .busy }) ∧ G (W.putObj l (.loop { r with state := .ready, pending := none }))
 | .ret, _, W => W.heap[l]? = some (.loop { r with state := .busy }) ∧ S (W.putObj l (.loop { r with state := .done, pending := some .ret }))
 | _, _, _ => False
theorem yield_at {F : Fence} {n l : Nat} {P : Program} {r : Loop} {args : Array Value} {W : World} {G S : World → Prop} (hl : W.heap[l]? = some (.loop r)) (hs : r.state = .ready) (hp : args.size = r.params.size) (hF : F.fn r.fn)
   (h : r.assign.wpIn (F.inRound l) n P (Exit.then (fun a1 W1 => W1.heap[l]? = some (.loop r) ∧ r.body.wpIn (F.inRound l) n P (RoundEnd l r G S) a1 (W1.putObj l (.loop { r with state := .busy }))) (fun _ _ _ => False))
     { tmps := (r.params.zip args).foldl (fun tmps (t, a) => tmps.setIfInBounds t a) r.tmps, defers := [] } W) :
   YieldAt F n P l args W fun e W' => (e = .returned (.bool true) ∧ G W') ∨ (e = .returned (.bool false) ∧ S W') := by
 refine ⟨_, _, _, _, run_yield hl hp, roundIn_of_wpIn hF (wpIn_mono h ?_)⟩
 intro e a1 W1 h1
 cases e with
 | normal =>
   obtain ⟨h1, h2⟩ := h1
   refine ⟨_, run_beginRound h1 hs, wpIn_mono h2 ?_⟩
   intro e2 a2 W2 h3
   cases e2 with
   | normal => exact ⟨_, _, run_endRound (P := P) none h3.1, .inl ⟨rfl, h3.2⟩⟩
   | ret => exact ⟨_, _, run_endRound (P := P) (some .ret) h3.1, .inr ⟨rfl, h3.2⟩⟩
   | exit _ => exact h3.elim
   | goto _ => exact h3.elim
   | panic _ => exact h3.elim
   | outgrown => exact h3.elim
 | exit _ => exact h1.elim
 | ret => exact h1.elim
 | goto _ => exact h1.elim
 | panic _ => exact h1.elim
 | outgrown => exact h1.elim
theorem yield_of {F : Fence} {n l : Nat} {P : Program} {r : Loop} {ps : Array Tmp} {assign body : Code} {tmps : Array Value} {args : Array Value} {W : World} {G S : World → Prop} (hps : r.params = ps) (hra : r.assign = assign) (hrb : r.body = body) (hrt : r.tmps = tmps) (hl : W.heap[l]? = some (.loop r)) (hs : r.state = .ready) (hp : args.size = ps.size) (hF : F.fn r.fn)
   (h : assign.wpIn (F.inRound l) n P (Exit.then (fun a1 W1 => W1.heap[l]? = some (.loop r) ∧ body.wpIn (F.inRound l) n P (RoundEnd l r G S) a1 (W1.putObj l (.loop { r with state := .busy }))) (fun _ _ _ => False))
     { tmps := (ps.zip args).foldl (fun tmps (t, a) => tmps.setIfInBounds t a) tmps, defers := [] } W) :
   YieldAt F n P l args W fun e W' => (e = .returned (.bool true) ∧ G W') ∨ (e = .returned (.bool false) ∧ S W') := by
 subst hps hra hrb hrt
 exact yield_at hl hs hp hF h
theorem range_at {F : Fence} {n : Nat} {P : Program} {g : Operand} {ps : Array Tmp} {assign body : Code} {Q : Exit → Act → World → Prop} {a : Act} {w : World} (hro : F.round = none) (h1 : 1 ≤ n) {gf : Nat} {lb : Array Value} (hg : a.eval g = .func (.func gf) #[] lb) (hFg : F.fn gf)
   (eg : ∀ args w, (callFunc gf args).run P w = .ok (.enter gf args) w)
   (h : ∀ (r : Loop), F.fn r.fn → r.state = .ready → r.pending = none → r.tmps = a.tmps → r.params = ps → r.assign = assign → r.body = body →
     CallsIn F (n - 1) P gf (#[.func (.yield (w.heap.size + 1)) #[] #[]] ++ lb) ((w.alloc (.deferred (some []))).alloc (.loop r)) fun e W => (∃ v, e = .returned v) ∧
       ((W.heap[w.heap.size + 1]? = some (.loop r) ∧ Q .normal { a with defers := { target := .collected w.heap.size, args := #[] } :: a.defers } (W.putObj (w.heap.size + 1) (.loop { r with state := .exhausted }))) ∨
        (W.heap[w.heap.size + 1]? = some (.loop { r with state := .done, pending := some .ret }) ∧ Q .ret { a with defers := { target := .collected w.heap.size, args := #[] } :: a.defers } (W.putObj (w.heap.size + 1) (.loop { r with state := .exhausted, pending := some .ret }))))) :
   (Code.rangeFunc g ps assign body).wpIn F n P Q a w := by
 refine wpIn_rangeFunc (fun fn hfn => ?_)
 have hc := h { state := .ready, pending := none, fn, tmps := a.tmps, params := ps, assign, body, defers := w.heap.size } hfn rfl rfl rfl rfl rfl rfl
 rw [hro]
 refine ⟨_, _, _, { target := .fn (.func gf) lb, args := #[.func (.yield (w.heap.size + 1)) #[] #[]] }, ((w.alloc (.deferred (some []))).alloc (.loop { state := .ready, pending := none, fn, tmps := a.tmps, params := ps, assign, body, defers := w.heap.size })), gf, _, _, run_enterLoop_outer _ _ _ _ _, ?_, ?_, ?_, fun _ => h1, hc.mono ?_⟩
 · simp only [resolve, hg]
   simp [go_sem]
 · intro f hf
   simp [Target.leads] at hf
   subst hf
   exact hFg
 · simp [invoke, go_sem, eg]
 · rintro e W ⟨⟨v, rfl⟩, (⟨hl, hq⟩ | ⟨hl, hq⟩)⟩
   · exact ⟨_, _, run_endLoop (P := P) hl (by simp), hq⟩
   · exact ⟨_, _, run_endLoop (P := P) hl (by simp), wpIn_ret hq⟩
end Go.Proofs.YtkomnnijnggbpaaGreatDoor
/- A scope that no goto leaves, inside a fence. -/
namespace Go.Proofs.YtkomnnijnggbpaaGreatDoor

section
variable {P : Program} {b : Frame} {a : Act} {k : List Item} {cs : List Frame} {w : World}
theorem stepR_scope {c : Code} : step P (lone (b.atR a (.code (.scope c) :: k)) cs w) = .next (lone (b.atR a (.code c :: .inScope c :: k)) cs w) :=
 step_lone_go (by simp [stepG, stepG.exec, Frame.atR])
theorem stepR_inScope {c : Code} : step P (lone (b.atR a (.inScope c :: k)) cs w) = .next (lone (b.atR a k) cs w) :=
 step_lone_go (by simp [stepG, stepG.exec, Frame.atR])
end

theorem wpIn_scope {F : Fence} {n : Nat} {P : Program} {Q : Exit → Act → World → Prop} {a : Act} {w : World} {c : Code} (h : c.wpIn F n P (Exit.noGoto Q) a w) : (Code.scope c).wpIn F n P Q a w := by
 intro b k cs hro hb hr
 have h0 : (lone (b.atR a (.code (.scope c) :: k)) cs w).fenced P F := fenced_calm hb hr rfl
 obtain ⟨e, a₁, w₁, hq, harr⟩ := h b (.inScope c :: k) cs hro hb hr
 cases e with
 | normal => exact ⟨.normal, a₁, w₁, hq, .head h0 stepR_scope (StepsIn.trans harr (.one (fenced_calm hb hr rfl) stepR_inScope))⟩
 | exit id =>
   have hx : exitTo id (.inScope c :: k) = exitTo id k := by simp [exitTo]
   exact ⟨.exit id, a₁, w₁, hq, fun k' hk => .head h0 stepR_scope (harr.1 k' (by rw [hx]; exact hk)),
     fun hr' hk => let ⟨k₁, h1, h2⟩ := harr.2 hr' (by rw [hx]; exact hk); ⟨k₁, h1, .head h0 stepR_scope h2⟩⟩
 | goto l => exact hq.elim
 | ret => exact ⟨_, a₁, w₁, hq, .of_steps (.one h0 stepR_scope) harr⟩
 | panic ch => exact ⟨_, a₁, w₁, hq, .of_steps (.one h0 stepR_scope) harr⟩
 | outgrown => exact ⟨_, a₁, w₁, hq, .of_steps (.one h0 stepR_scope) harr⟩
end Go.Proofs.YtkomnnijnggbpaaGreatDoor
/- Entries as they are told one by one, and what a block is made of them. -/
namespace Go.Proofs.YtkomnnijnggbpaaGreatDoor
open Go.RowKit
set_option linter.unusedVariables false

def entB (sh : Nat) (X : List UInt8) (z : Nat) (V : List UInt8) : List UInt8 := varB sh ++ (varB X.length ++ (varB z ++ (X ++ V)))
def zOf (G : Bool) (V : ByteArray) : Nat := 2 * V.size + (if G then 1 else 0)
structure Ent where
 place : Nat
 share : Nat
 rest : ByteArray
 gone : Bool
 value : ByteArray
 ok : place ≤ 50 ∧ share ≤ 38 ∧ rest.size ≤ 38 ∧ value.size ≤ 30
def entBytes (y : Ent) : List UInt8 := entB y.share y.rest.data.toList (zOf y.gone y.value) y.value.data.toList
def blkB (ys : List Ent) : List UInt8 := ys.flatMap entBytes
def stFrom (e : Nat) : Nat → List Ent → List UInt8
 | _, [] => []
 | pos, y :: r => (if y.place % e = 0 then fixB pos 2 else []) ++ stFrom e (pos + (entBytes y).length) r
theorem blkB_snoc (ys : List Ent) (y : Ent) : blkB (ys ++ [y]) = blkB ys ++ entBytes y := by simp [blkB]
theorem stFrom_snoc (e : Nat) : ∀ (ys : List Ent) (pos : Nat) (y : Ent), stFrom e pos (ys ++ [y]) = stFrom e pos ys ++ (if y.place % e = 0 then fixB (pos + (blkB ys).length) 2 else [])
 | [], pos, y => by simp [stFrom, blkB]
 | z :: ys, pos, y => by
   rw [List.cons_append, stFrom, stFrom, stFrom_snoc e ys _ y, List.append_assoc]
   have : (blkB (z :: ys)).length = (entBytes z).length + (blkB ys).length := by simp [blkB]
   rw [this, Nat.add_assoc]
theorem entBytes_len (y : Ent) : (entBytes y).length ≤ 71 := by
 obtain ⟨h1, h2, h3, h4⟩ := y.ok
 have l1 : y.rest.data.toList.length = y.rest.size := by simp
 have l2 : y.value.data.toList.length = y.value.size := by simp
 have hz : zOf y.gone y.value ≤ 61 := by unfold zOf; split <;> omega
 unfold entBytes entB
 rw [List.length_append, List.length_append, List.length_append, List.length_append, l1, l2, var_one (by omega), var_one (by omega), var_one (by omega)]
 omega
theorem blkB_len (ys : List Ent) : (blkB ys).length ≤ 71 * ys.length := by
 induction ys with
 | nil => simp [blkB]
 | cons y ys ih =>
   have : (blkB (y :: ys)).length = (entBytes y).length + (blkB ys).length := by simp [blkB]
   rw [this, List.length_cons]
   have := entBytes_len y
   omega
theorem stFrom_len (e : Nat) : ∀ (ys : List Ent) (pos : Nat), (stFrom e pos ys).length ≤ 2 * ys.length ∧ (stFrom e pos ys).length % 2 = 0
 | [], pos => by simp [stFrom]
 | y :: ys, pos => by
   have ih := stFrom_len e ys (pos + (entBytes y).length)
   unfold stFrom
   rw [List.length_append, List.length_cons]
   split
   · rw [fix_length]; omega
   · simp; omega
def EntsOf (e : Nat) (xs : List Cel) (n : Nat) (ys : List Ent) : Prop :=
 ys.length = n ∧ ∀ (k : Nat) (y : Ent) (x : Cel), ys[k]? = some y → xs[k]? = some x → y.place = k ∧ y.share = shareOf e k (lastOf [] (xs.take k)) (celKey x) ∧ y.rest.data.toList = (celKey x).drop y.share ∧ y.gone = x.gone ∧ y.value = x.value
theorem ents_nil (e : Nat) (xs : List Cel) : EntsOf e xs 0 [] := ⟨rfl, fun k y x h => by simp at h⟩
theorem ents_snoc {e : Nat} {xs : List Cel} {n : Nat} {ys : List Ent} {x : Cel} (h : EntsOf e xs n ys) (hx : xs[n]? = some x) (y : Ent) (h1 : y.place = n) (h2 : y.share = shareOf e n (lastOf [] (xs.take n)) (celKey x)) (h3 : y.rest.data.toList = (celKey x).drop y.share) (h4 : y.gone = x.gone) (h5 : y.value = x.value) : EntsOf e xs (n + 1) (ys ++ [y]) := by
 refine ⟨by simp [h.1], fun k z x' hz hx' => ?_⟩
 by_cases hk : k < n
 · rw [List.getElem?_append_left (by rw [h.1]; exact hk)] at hz
   exact h.2 k z x' hz hx'
 · rw [List.getElem?_append_right (by rw [h.1]; omega), h.1] at hz
   have : k = n := by
     have := (List.getElem?_eq_some_iff.1 hz).1
     simp at this
     omega
   subst this
   rw [hx] at hx'
   cases hx'
   simp at hz
   subst hz
   exact ⟨h1, h2, h3, h4, h5⟩
theorem ents_take {e : Nat} {xs : List Cel} {n : Nat} {ys : List Ent} (h : EntsOf e xs n ys) (hn : n ≤ xs.length) : ∀ k, k ≤ n → blkB (ys.take k) = entries e 0 [] (xs.take k) ∧ stFrom e 0 (ys.take k) = startsB e 0 0 [] (xs.take k)
 | 0, _ => by simp [blkB, entries, stFrom, startsB]
 | k + 1, hk => by
   have ih := ents_take h hn k (by omega)
   have hky : k < ys.length := by rw [h.1]; omega
   have hkx : k < xs.length := by omega
   obtain ⟨q1, q2, q3, q4, q5⟩ := h.2 k ys[k] xs[k] (List.getElem?_eq_getElem hky) (List.getElem?_eq_getElem hkx)
   have hy : ys.take (k + 1) = ys.take k ++ [ys[k]] := List.take_succ_eq_append_getElem hky
   have hx : xs[k]? = some xs[k] := List.getElem?_eq_getElem hkx
   have hb : entBytes ys[k] = entry e k (lastOf [] (xs.take k)) xs[k] := by
     unfold entBytes entB entry
     have hl := share_le e k (lastOf [] (xs.take k)) (celKey xs[k])
     rw [q3, q2, q4, q5, List.length_drop]
     rfl
   refine ⟨?_, ?_⟩
   · rw [hy, blkB_snoc, entries_step e hx, ih.1, hb]
   · rw [hy, stFrom_snoc, starts_step e hx, ih.2, ih.1, q1, Nat.zero_add]
theorem ents_block {e : Nat} {xs : List Cel} {ys : List Ent} (h : EntsOf e xs xs.length ys) : blkB ys = entries e 0 [] xs ∧ stFrom e 0 ys = startsB e 0 0 [] xs := by
 have := ents_take h (Nat.le_refl _) xs.length (Nat.le_refl _)
 rw [List.take_of_length_le (by rw [h.1]; exact Nat.le_refl _), List.take_length] at this
 exact this
theorem share_run {e st i : Nat} {xs : List Cel} {A k : List UInt8} (hst : st % e = 0) (hi : i < e) (hA : A = if i = 0 then [] else lastOf [] (xs.take (st + i))) : shared A k = shareOf e (st + i) (lastOf [] (xs.take (st + i))) k := by
 unfold shareOf
 have hm : (st + i) % e = i := by rw [Nat.add_mod, hst, Nat.zero_add, Nat.mod_mod, Nat.mod_eq_of_lt hi]
 rw [hm, hA]
 by_cases h0 : i = 0
 · rw [if_pos h0, if_pos h0]
   cases k <;> simp [shared]
 · rw [if_neg h0, if_neg h0]
theorem lt_of_blk {w : World} {g : Nat} {o : Obj} (h : w.heap[g]? = some o) : g < w.heap.size := (Array.getElem?_eq_some_iff.1 h).1
set_option maxHeartbeats 4000000 in
set_option maxRecDepth 100000 in
theorem appendTo_at (sh : Nat) (X V : ByteArray) (G : Bool) (hsh : sh ≤ 38) (hX : X.size ≤ 38) (hV : V.size ≤ 30) (v : Value) (xs : List UInt8) (hxs : xs.length ≤ 100000) (w0 w : World) (t : BRow w0 w v xs) :
   Calls Tryz.prog 126 #[.agg #[.int .i64 sh, .string X, .bool G, .string V], v] w fun e w' => ∃ v', e = .returned v' ∧ BRow w0 w' v' (xs ++ entB sh X.data.toList (zOf G V) V.data.toList) ∧ w.grownBy w' v.ownBlock ∧ Where w v v' := by
 have E0 := Lib.hid (alloc_at w (.cells #[.int .i64 sh, .string X, .bool G, .string V] 153))
 have T0 := Lib.hid (t.alloc (.cells #[.int .i64 sh, .string X, .bool G, .string V] 153))
 have G0 := Lib.hid (grown_under (one_below w (.cells #[.int .i64 sh, .string X, .bool G, .string V] 153)) v.ownBlock)
 have hXl : X.data.toList.length = X.size := by simp
 have HXL := Lib.hid hXl
 obtain ⟨zz, hzz⟩ : ∃ zz, zOf G V = zz := ⟨_, rfl⟩
 have HZZ := Lib.hid hzz
 have zz9 : zz ≤ 61 := by rw [← hzz]; unfold zOf; split <;> omega
 obtain ⟨P1, hP1, hP1s⟩ := text_of (varB sh)
 obtain ⟨P2, hP2, hP2s⟩ := text_of (varB X.size)
 obtain ⟨P3, hP3, hP3s⟩ := text_of (varB zz)
 rw [var_one (by omega)] at hP1s hP2s hP3s
 have p1s : P1.size ≤ 1 := by omega
 have p2s : P2.size ≤ 1 := by omega
 have p3s : P3.size ≤ 1 := by omega
 have l1 : P1.data.toList.length = P1.size := by simp
 have l2 : P2.data.toList.length = P2.size := by simp
 have l3 : P3.data.toList.length = P3.size := by simp
 have HL := Lib.hid (And.intro l1 (And.intro l2 l3))
 have HP1 := Lib.hid (show P1.data.toList = putVar (sh : Int) by rw [hP1, putVar_in (by omega)])
 have HP2 := Lib.hid (show P2.data.toList = putVar (X.size : Int) by rw [hP2, putVar_in (by omega)])
 have HP3 := Lib.hid (show P3.data.toList = putVar (zz : Int) by rw [hP3, putVar_in (by omega)])
 have HV3 := Lib.hid (And.intro hP1 (And.intro hP2 hP3))
 have hz : (G = true → 2 * (V.size : Int) + 1 = (zz : Int)) ∧ (G = false → 2 * (V.size : Int) = (zz : Int)) := by
   refine ⟨fun h => ?_, fun h => ?_⟩ <;> (rw [← hzz, h]; simp [zOf])
 have ix0 : ∀ W : World, (Instr.index 186 (.agg #[.int .i64 sh, .int .i64 X.size, .int .i64 zz]) (.int .i64 0)).run Tryz.prog W = .ok (.int .i64 sh) W := fun _ => by kernel_rfl
 have ix1 : ∀ W : World, (Instr.index 186 (.agg #[.int .i64 sh, .int .i64 X.size, .int .i64 zz]) (.int .i64 1)).run Tryz.prog W = .ok (.int .i64 X.size) W := fun _ => by kernel_rfl
 have ix2 : ∀ W : World, (Instr.index 186 (.agg #[.int .i64 sh, .int .i64 X.size, .int .i64 zz]) (.int .i64 2)).run Tryz.prog W = .ok (.int .i64 zz) W := fun _ => by kernel_rfl
 clear hzz hP1 hP2 hP3 hP1s hP2s hP3s t hXl l1 l2 l3
 go_enter Tryz.func126, Tryz.ntmps126
 cases G
 · skip
   have hz1 := hz.2 rfl
   clear hz
   skip
   go_wp2_with fail
   go_loopw [1, 23] (fun u ii wr => ∃ (i : Nat), i ≤ 3 ∧ ii = .int .i64 i ∧ BRow w0 wr u (xs ++ (([P1.data.toList, P2.data.toList, P3.data.toList].take i).flatten)) ∧ w.grownBy wr v.ownBlock ∧ Where w v u ∧ wr.heap[w.heap.size]? = some (.cells #[.int .i64 sh, .string X, .bool false, .string V] 153 (0, 0))) (fun _ ii _ => 3 - (intOf ii).toNat)
   case atStart => exact ⟨0, by omega, rfl, by simpa using T0.out, G0.out, Where.refl _ _, E0.out⟩
   case round =>
     obtain ⟨i, hi, rfl, tr, gr, wh, en⟩ := hrel
     have TR := Lib.hid tr
     have GR := Lib.hid gr
     have WH := Lib.hid wh
     have EN := Lib.hid en
     clear tr gr wh en
     rcases (by omega : i = 0 ∨ i = 1 ∨ i = 2 ∨ i = 3) with rfl | rfl | rfl | rfl
     · skip
       go_wp2_with fail
       refine (implPutVar_as (sh : Int) P1 HP1.out _).mono ?_
       rintro e w1 ⟨rfl, b1⟩
       have T1 := Lib.hid (TR.out.under b1)
       have EN1 := Lib.hid ((b1.block _ (lt_of_blk EN.out)).trans EN.out)
       have GWW := Lib.hid (And.intro (grown_then GR.out b1) WH.out)
       clear b1 TR GR WH EN
       go_wp2_with (at_builtin; refine wpList_plain rfl (fun K hK => ?_); refine op_pushA P1 _ _ rfl rfl rfl T1.out (by have := HL.out; simp; omega) ?_; intro v2 w2 t2 hg2 hw2; refine hK _ _ ?_; clear hK K; have T2 := Lib.hid t2; have EN2 := Lib.hid ((hg2.block _ (lt_of_blk EN1.out) (BRow.apart T1.out EN1.out (by decide))).trans EN1.out); have GW2 := Lib.hid (Where.grow GWW.out.2 GWW.out.1 hg2); have WW2 := Lib.hid (Where.trans GWW.out.2 GWW.out.1.size hw2); clear t2 hg2 hw2)
       go_roundw
       case rel => exact ⟨1, by omega, by go_num, by have h := T2.out; simpa using h, GW2.out, WW2.out, EN2.out⟩
       case measure => simp [intOf]
     · skip
       go_wp2_with fail
       refine (implPutVar_as (X.size : Int) P2 HP2.out _).mono ?_
       rintro e w1 ⟨rfl, b1⟩
       have T1 := Lib.hid (TR.out.under b1)
       have EN1 := Lib.hid ((b1.block _ (lt_of_blk EN.out)).trans EN.out)
       have GWW := Lib.hid (And.intro (grown_then GR.out b1) WH.out)
       clear b1 TR GR WH EN
       go_wp2_with (at_builtin; refine wpList_plain rfl (fun K hK => ?_); refine op_pushA P2 _ _ rfl rfl rfl T1.out (by have := HL.out; simp; omega) ?_; intro v2 w2 t2 hg2 hw2; refine hK _ _ ?_; clear hK K; have T2 := Lib.hid t2; have EN2 := Lib.hid ((hg2.block _ (lt_of_blk EN1.out) (BRow.apart T1.out EN1.out (by decide))).trans EN1.out); have GW2 := Lib.hid (Where.grow GWW.out.2 GWW.out.1 hg2); have WW2 := Lib.hid (Where.trans GWW.out.2 GWW.out.1.size hw2); clear t2 hg2 hw2)
       go_roundw
       case rel => exact ⟨2, by omega, by go_num, by have h := T2.out; simpa using h, GW2.out, WW2.out, EN2.out⟩
       case measure => simp [intOf]
     · skip
       go_wp2_with fail
       refine (implPutVar_as (zz : Int) P3 HP3.out _).mono ?_
       rintro e w1 ⟨rfl, b1⟩
       have T1 := Lib.hid (TR.out.under b1)
       have EN1 := Lib.hid ((b1.block _ (lt_of_blk EN.out)).trans EN.out)
       have GWW := Lib.hid (And.intro (grown_then GR.out b1) WH.out)
       clear b1 TR GR WH EN
       go_wp2_with (at_builtin; refine wpList_plain rfl (fun K hK => ?_); refine op_pushA P3 _ _ rfl rfl rfl T1.out (by have := HL.out; simp; omega) ?_; intro v2 w2 t2 hg2 hw2; refine hK _ _ ?_; clear hK K; have T2 := Lib.hid t2; have EN2 := Lib.hid ((hg2.block _ (lt_of_blk EN1.out) (BRow.apart T1.out EN1.out (by decide))).trans EN1.out); have GW2 := Lib.hid (Where.grow GWW.out.2 GWW.out.1 hg2); have WW2 := Lib.hid (Where.trans GWW.out.2 GWW.out.1.size hw2); clear t2 hg2 hw2)
       go_roundw
       case rel => exact ⟨3, by omega, by go_num, by have h := T2.out; simpa using h, GW2.out, WW2.out, EN2.out⟩
       case measure => simp [intOf]
     · skip
       obtain ⟨f0, f1, f2, f3⟩ := blk4 EN.out
       have GWW := Lib.hid (And.intro GR.out WH.out)
       go_wp2_with (first
         | (at_builtin; refine wpList_plain rfl (fun K hK => ?_); refine op_pushA V _ _ rfl rfl rfl T2.out (by have := HL.out; simp; omega) ?_; intro v3 w3 t3 hg3 hw3; refine hK _ _ ?_; clear hK K; have T3 := Lib.hid t3; have EN3 := Lib.hid ((hg3.block _ (lt_of_blk EN2.out) (BRow.apart T2.out EN2.out (by decide))).trans EN2.out); have GW3 := Lib.hid (Where.grow (And.intro GW2.out WW2.out).2 (And.intro GW2.out WW2.out).1 hg3); have WW3 := Lib.hid (Where.trans (And.intro GW2.out WW2.out).2 (And.intro GW2.out WW2.out).1.size hw3); clear t3 hg3 hw3)
         | (at_builtin; refine wpList_plain rfl (fun K hK => ?_); refine op_pushA X _ _ rfl rfl rfl TR.out (by have := HL.out; simp; omega) ?_; intro v2 w2 t2 hg2 hw2; refine hK _ _ ?_; clear hK K; have T2 := Lib.hid t2; have EN2 := Lib.hid ((hg2.block _ (lt_of_blk EN.out) (BRow.apart TR.out EN.out (by decide))).trans EN.out); have GW2 := Lib.hid (Where.grow GWW.out.2 GWW.out.1 hg2); have WW2 := Lib.hid (Where.trans GWW.out.2 GWW.out.1.size hw2); clear t2 hg2 hw2; have f3' := (blk4 EN2.out).2.2.2))
       go_ret
       refine ⟨_, rfl, ?_, GW3.out, WW3.out⟩
       have h := T3.out
       rw [HZZ.out]
       unfold entB
       rw [← HV3.out.1, HXL.out, ← HV3.out.2.1, ← HV3.out.2.2]
       simpa using h
 · skip
   have hz1 := hz.1 rfl
   clear hz
   obtain ⟨z0, hz0⟩ : ∃ z0 : Nat, 2 * (V.size : Int) = (z0 : Int) := ⟨2 * V.size, by simp⟩
   have hz2 : (z0 : Int) + 1 = (zz : Int) := by omega
   clear hz1
   go_wp2_with fail
   go_loopw [1, 23] (fun u ii wr => ∃ (i : Nat), i ≤ 3 ∧ ii = .int .i64 i ∧ BRow w0 wr u (xs ++ (([P1.data.toList, P2.data.toList, P3.data.toList].take i).flatten)) ∧ w.grownBy wr v.ownBlock ∧ Where w v u ∧ wr.heap[w.heap.size]? = some (.cells #[.int .i64 sh, .string X, .bool true, .string V] 153 (0, 0))) (fun _ ii _ => 3 - (intOf ii).toNat)
   case atStart => exact ⟨0, by omega, rfl, by simpa using T0.out, G0.out, Where.refl _ _, E0.out⟩
   case round =>
     obtain ⟨i, hi, rfl, tr, gr, wh, en⟩ := hrel
     have TR := Lib.hid tr
     have GR := Lib.hid gr
     have WH := Lib.hid wh
     have EN := Lib.hid en
     clear tr gr wh en
     rcases (by omega : i = 0 ∨ i = 1 ∨ i = 2 ∨ i = 3) with rfl | rfl | rfl | rfl
     · skip
       go_wp2_with fail
       refine (implPutVar_as (sh : Int) P1 HP1.out _).mono ?_
       rintro e w1 ⟨rfl, b1⟩
       have T1 := Lib.hid (TR.out.under b1)
       have EN1 := Lib.hid ((b1.block _ (lt_of_blk EN.out)).trans EN.out)
       have GWW := Lib.hid (And.intro (grown_then GR.out b1) WH.out)
       clear b1 TR GR WH EN
       go_wp2_with (at_builtin; refine wpList_plain rfl (fun K hK => ?_); refine op_pushA P1 _ _ rfl rfl rfl T1.out (by have := HL.out; simp; omega) ?_; intro v2 w2 t2 hg2 hw2; refine hK _ _ ?_; clear hK K; have T2 := Lib.hid t2; have EN2 := Lib.hid ((hg2.block _ (lt_of_blk EN1.out) (BRow.apart T1.out EN1.out (by decide))).trans EN1.out); have GW2 := Lib.hid (Where.grow GWW.out.2 GWW.out.1 hg2); have WW2 := Lib.hid (Where.trans GWW.out.2 GWW.out.1.size hw2); clear t2 hg2 hw2)
       go_roundw
       case rel => exact ⟨1, by omega, by go_num, by have h := T2.out; simpa using h, GW2.out, WW2.out, EN2.out⟩
       case measure => simp [intOf]
     · skip
       go_wp2_with fail
       refine (implPutVar_as (X.size : Int) P2 HP2.out _).mono ?_
       rintro e w1 ⟨rfl, b1⟩
       have T1 := Lib.hid (TR.out.under b1)
       have EN1 := Lib.hid ((b1.block _ (lt_of_blk EN.out)).trans EN.out)
       have GWW := Lib.hid (And.intro (grown_then GR.out b1) WH.out)
       clear b1 TR GR WH EN
       go_wp2_with (at_builtin; refine wpList_plain rfl (fun K hK => ?_); refine op_pushA P2 _ _ rfl rfl rfl T1.out (by have := HL.out; simp; omega) ?_; intro v2 w2 t2 hg2 hw2; refine hK _ _ ?_; clear hK K; have T2 := Lib.hid t2; have EN2 := Lib.hid ((hg2.block _ (lt_of_blk EN1.out) (BRow.apart T1.out EN1.out (by decide))).trans EN1.out); have GW2 := Lib.hid (Where.grow GWW.out.2 GWW.out.1 hg2); have WW2 := Lib.hid (Where.trans GWW.out.2 GWW.out.1.size hw2); clear t2 hg2 hw2)
       go_roundw
       case rel => exact ⟨2, by omega, by go_num, by have h := T2.out; simpa using h, GW2.out, WW2.out, EN2.out⟩
       case measure => simp [intOf]
     · skip
       go_wp2_with fail
       refine (implPutVar_as (zz : Int) P3 HP3.out _).mono ?_
       rintro e w1 ⟨rfl, b1⟩
       have T1 := Lib.hid (TR.out.under b1)
       have EN1 := Lib.hid ((b1.block _ (lt_of_blk EN.out)).trans EN.out)
       have GWW := Lib.hid (And.intro (grown_then GR.out b1) WH.out)
       clear b1 TR GR WH EN
       go_wp2_with (at_builtin; refine wpList_plain rfl (fun K hK => ?_); refine op_pushA P3 _ _ rfl rfl rfl T1.out (by have := HL.out; simp; omega) ?_; intro v2 w2 t2 hg2 hw2; refine hK _ _ ?_; clear hK K; have T2 := Lib.hid t2; have EN2 := Lib.hid ((hg2.block _ (lt_of_blk EN1.out) (BRow.apart T1.out EN1.out (by decide))).trans EN1.out); have GW2 := Lib.hid (Where.grow GWW.out.2 GWW.out.1 hg2); have WW2 := Lib.hid (Where.trans GWW.out.2 GWW.out.1.size hw2); clear t2 hg2 hw2)
       go_roundw
       case rel => exact ⟨3, by omega, by go_num, by have h := T2.out; simpa using h, GW2.out, WW2.out, EN2.out⟩
       case measure => simp [intOf]
     · skip
       obtain ⟨f0, f1, f2, f3⟩ := blk4 EN.out
       have GWW := Lib.hid (And.intro GR.out WH.out)
       go_wp2_with (first
         | (at_builtin; refine wpList_plain rfl (fun K hK => ?_); refine op_pushA V _ _ rfl rfl rfl T2.out (by have := HL.out; simp; omega) ?_; intro v3 w3 t3 hg3 hw3; refine hK _ _ ?_; clear hK K; have T3 := Lib.hid t3; have EN3 := Lib.hid ((hg3.block _ (lt_of_blk EN2.out) (BRow.apart T2.out EN2.out (by decide))).trans EN2.out); have GW3 := Lib.hid (Where.grow (And.intro GW2.out WW2.out).2 (And.intro GW2.out WW2.out).1 hg3); have WW3 := Lib.hid (Where.trans (And.intro GW2.out WW2.out).2 (And.intro GW2.out WW2.out).1.size hw3); clear t3 hg3 hw3)
         | (at_builtin; refine wpList_plain rfl (fun K hK => ?_); refine op_pushA X _ _ rfl rfl rfl TR.out (by have := HL.out; simp; omega) ?_; intro v2 w2 t2 hg2 hw2; refine hK _ _ ?_; clear hK K; have T2 := Lib.hid t2; have EN2 := Lib.hid ((hg2.block _ (lt_of_blk EN.out) (BRow.apart TR.out EN.out (by decide))).trans EN.out); have GW2 := Lib.hid (Where.grow GWW.out.2 GWW.out.1 hg2); have WW2 := Lib.hid (Where.trans GWW.out.2 GWW.out.1.size hw2); clear t2 hg2 hw2; have f3' := (blk4 EN2.out).2.2.2))
       go_ret
       refine ⟨_, rfl, ?_, GW3.out, WW3.out⟩
       have h := T3.out
       rw [HZZ.out]
       unfold entB
       rw [← HV3.out.1, HXL.out, ← HV3.out.2.1, ← HV3.out.2.2]
       simpa using h
theorem infoStr : (Tryz.prog.info? 9).map (fun i => (i.zero, i.size, i.bytes)) = some (some (.string ⟨#[]⟩), 1, 16) := by kernel_rfl

structure RowAt (w0 w : World) (v : Value) (xs : List ByteArray) : Prop where
 row : w.ownsRow w0.heap.size 9 1 v xs.length (xs.map Value.string)
 below : Below w0.heap.size w0 w

theorem RowAt.push {w0 w w' : World} {v v' : Value} {xs : List ByteArray} (t : RowAt w0 w v xs) (o : Obj) (x : ByteArray)
   (hown : w'.ownsRow w0.heap.size 9 1 v' (xs.length + 1) (xs.map Value.string ++ [.string x])) (hg : (w.alloc o).grownBy w' v.ownBlock) :
   ∃ g c, v' = .slice (some ⟨g, 0, none⟩) (xs.length + 1) c ∧ RowAt w0 w' v' (xs ++ [x]) := by
 obtain ⟨g, c, rfl⟩ := ownsRow_succ hown
 refine ⟨g, c, rfl, by simpa using hown, ?_⟩
 exact (t.below.alloc t.below.size o).grown hg (by have := t.below.size; simp; omega) (fun k hk => (t.row.lt k hk).1)

def StrAt (w : World) (a : Option Addr) (n c : Nat) (xs : List ByteArray) : Prop := xs.length = n ∧ n ≤ c ∧ ∀ (k : Nat) (x : ByteArray), xs[k]? = some x → ∃ g, a = some ⟨g, 0, none⟩ ∧ w.cell? ⟨g, k, none⟩ = some (.string x)
theorem StrAt.below {w w' : World} {a : Option Addr} {n c : Nat} {xs : List ByteArray} (h : StrAt w a n c xs) (hb : Below w.heap.size w w') : StrAt w' a n c xs :=
 ⟨h.1, h.2.1, fun k x hk => by obtain ⟨g, e, hc⟩ := h.2.2 k x hk; exact ⟨g, e, (hb.cell (p := ⟨g, k, none⟩) (cell_lt hc)).trans hc⟩⟩
theorem str_row {B : Nat} {w : World} {a : Option Addr} {n c : Nat} {xs : List ByteArray} (h : w.ownsRow B 9 1 (.slice a n c) xs.length (xs.map Value.string)) : StrAt w a n c xs := by
 rcases h.2 with ⟨h0, hn⟩ | ⟨g, cap, cur, h1, _, hc, hn, _, hs, ht⟩
 · cases h0
   refine ⟨hn, Nat.le_refl _, fun k x hk => ?_⟩
   have := (List.getElem?_eq_some_iff.1 hk).1
   omega
 · cases h1
   refine ⟨rfl, hn, fun k x hk => ⟨g, rfl, ?_⟩⟩
   have hk' := (List.getElem?_eq_some_iff.1 hk).1
   have h2 : w.cell? ⟨g, k, none⟩ = cur[k]? := by simp [World.cell?, hc]
   have h3 : (xs.map Value.string)[k]? = some (.string x) := by rw [List.getElem?_map, hk]; rfl
   rw [← ht, List.getElem?_take, if_pos (by omega)] at h3
   rw [h2, ← Array.getElem?_toList]
   exact h3
theorem str_form {B : Nat} {w : World} {v : Value} {xs : List ByteArray} (h : w.ownsRow B 9 1 v xs.length (xs.map Value.string)) : ∃ ad cap, v = .slice ad xs.length cap := by
 rcases h.2 with ⟨h0, hn⟩ | ⟨g, cap, cur, h1, _⟩
 · exact ⟨none, 0, by rw [h0, hn]⟩
 · exact ⟨_, _, h1⟩
def FitS (xs : List ByteArray) : Prop := ∀ x ∈ xs, x.size ≤ maxLen
def lists (xs : List ByteArray) : List (List UInt8) := xs.map (fun x => x.data.toList)
theorem lists_len (xs : List ByteArray) : (lists xs).length = xs.length := by unfold lists; simp
theorem lists_at {xs : List ByteArray} {k : Nat} {x : ByteArray} (h : xs[k]? = some x) : (lists xs)[k]? = some x.data.toList := by unfold lists; rw [List.getElem?_map, h]; rfl
theorem take_next {α : Type} {l : List α} {k : Nat} {x : α} (h : l[k]? = some x) : l.take (k + 1) = l.take k ++ [x] := by
 obtain ⟨hi, rfl⟩ := List.getElem?_eq_some_iff.1 h
 rw [List.take_succ_eq_append_getElem hi]
def OwnS (B : Nat) (w : World) (v : Value) (xs : List ByteArray) : Prop := w.ownsRow B 9 1 v xs.length (xs.map Value.string)
section
variable {B : Nat} {w w' : World} {v : Value} {xs : List ByteArray}
theorem OwnS.form (h : OwnS B w v xs) : ∃ ad cap, v = .slice ad xs.length cap := str_form h
theorem OwnS.row {a : Option Addr} {n c : Nat} (h : OwnS B w (.slice a n c) xs) : StrAt w a n c xs := by
 obtain ⟨ad, cap, e⟩ := h.form
 cases e
 exact str_row h
theorem OwnS.below (h : OwnS B w v xs) (hb : Below w.heap.size w w') : OwnS B w' v xs := by
 refine World.ownsRow.kept h (grown_of_below hb) ?_
 cases hv : v.ownBlock <;> simp
theorem OwnS.new (h : OwnS B w v xs) (o : Obj) : OwnS B (w.alloc o) v xs := World.ownsRow.alloc h o
theorem OwnS.lt (h : OwnS B w v xs) {k : Nat} (hk : v.ownBlock = some k) : B ≤ k ∧ k < w.heap.size := World.ownsRow.lt h k hk
theorem owns_made (w : World) : OwnS w.heap.size (w.alloc (.cells #[] 9)) (.slice (some ⟨w.heap.size, 0, none⟩) 0 0) [] := World.ownsRow_made w #[] 0 (Nat.le_refl _) (by unfold maxLen; omega) (by simp)
theorem OwnS.grown {p : Nat} (h : OwnS B w v xs) (hg : w.grownBy w' (some p)) (hp : p < B) : OwnS B w' v xs := by
 refine World.ownsRow.kept h hg ?_
 cases hv : v.ownBlock with
 | none => exact .inl rfl
 | some k =>
   refine .inr (fun e => ?_)
   have := (h.lt hv).1
   cases e
   omega
end
theorem op_pushW {B : Nat} {w : World} {v : Value} {xs : List ByteArray} (ys : List ByteArray) {ad : Addr} {c : Nat} {o : Oper} {act : Act} {K : Act → World → Prop} {Q : Exit → Act → World → Prop} (s x : Operand)
   (hop : o.op = .call { callee := .builtin .append, args := #[s, x], argTypes := #[72, 72] })
   (hs : act.eval s = v) {m : Nat} (hx : act.eval x = .slice (some ad) m c) (hm : ys.length = m) (hb : ∀ j u, (ys.map Value.string)[j]? = some u → w.cell? (ad.add j) = some u) (h : OwnS B w v xs) (hB : B ≤ w.heap.size) (hl : xs.length + ys.length < 4194304)
   (hk : ∀ v' w', OwnS B w' v' (xs ++ ys) → w.grownBy w' v.ownBlock → K (act.put o.dst v') w') : o.wp Tryz.prog act w K Q := by
 subst hm
 obtain ⟨ti, hti, hz0, hz1, hz2⟩ := info_parts infoStr
 refine wp_append_own _ s x 72 hop B 9 ti (.string ⟨#[]⟩) 1 16 Tryz.underlying72 hti hz0 hz1 hz2 rfl (by decide) v xs.length (xs.map Value.string) hs h
   ad ys.length c (ys.map Value.string) hx (by simp) hb (by simp [Value.oneCell']) (by unfold maxLen; omega) (by omega) hB ?_
 intro v' w' hown hg _
 refine hk v' w' ?_ hg
 unfold OwnS
 rw [List.length_append, List.map_append]
 exact hown
theorem new_text (w : World) (x : ByteArray) : ∀ j u, ([x].map Value.string)[j]? = some u → (w.alloc (.cells #[.string x] 9)).cell? ((⟨w.heap.size, 0, none⟩ : Addr).add j) = some u := by
 intro j u hj
 have e : (⟨w.heap.size, 0, none⟩ : Addr).add j = ⟨w.heap.size, j, none⟩ := by
   unfold Addr.add; split
   · subst_vars; rfl
   · simp
 rw [e]
 have hb : (w.alloc (.cells #[.string x] 9)).heap[w.heap.size]? = some (.cells #[.string x] 9 (0, 0)) := by
   show (w.heap.push _)[w.heap.size]? = _
   simp
 simp only [World.cell?, hb]
 simpa using hj
structure Keyed (w W : World) (T p : Nat) (a : Option Addr) (len cap : Nat) (zs : List Int) (i : Nat) (h : Int) (v : Value) (xs : List ByteArray) : Prop where
 own : OwnS w.heap.size W v xs
 cur : CurAt W T p a len cap zs i h
 grow : w.grownBy W (some p)
section
variable {w W W' : World} {T p : Nat} {a : Option Addr} {len cap : Nat} {zs : List Int} {i i' : Nat} {h h' : Int} {v v' : Value} {xs xs' : List ByteArray}
theorem Keyed.draw (d : Keyed w W T p a len cap zs i h v xs) (hp : p < w.heap.size) (hg : W.grownBy W' (some p)) (cu : CurAt W' T p a len cap zs i' h') : Keyed w W' T p a len cap zs i' h' v xs := ⟨d.own.grown hg hp, cu, d.grow.trans hg⟩
theorem Keyed.new (d : Keyed w W T p a len cap zs i h v xs) (o : Obj) : Keyed w (W.alloc o) T p a len cap zs i h v xs := ⟨d.own.new o, d.cur.new o, d.grow.trans (World.grownBy_alloc _ _ _)⟩
theorem Keyed.below (d : Keyed w W T p a len cap zs i h v xs) (hb : Below W.heap.size W W') : Keyed w W' T p a len cap zs i h v xs :=
 ⟨d.own.below hb, d.cur.below hb, ⟨hb.os.trans d.grow.os, hb.tape.trans d.grow.tape, hb.output.trans d.grow.output, Nat.le_trans d.grow.size hb.size, fun k hk hne => (hb.block k (by have := d.grow.size; omega)).trans (d.grow.block k hk hne)⟩⟩
theorem Keyed.push (d : Keyed w W T p a len cap zs i h v xs) (hp : p < w.heap.size) (hr : ∀ x, a = some x → x.block < w.heap.size ∨ len = 0) (o : OwnS w.heap.size W' v' xs') (gr : W.grownBy W' v.ownBlock) : Keyed w W' T p a len cap zs i h v' xs' := by
 have hb : ∀ k, v.ownBlock = some k → w.heap.size ≤ k := fun k e => (d.own.lt e).1
 refine ⟨o, d.cur.kept gr (fun e => ?_) (fun x hx => ?_), ⟨gr.os.trans d.grow.os, gr.tape.trans d.grow.tape, gr.output.trans d.grow.output, Nat.le_trans d.grow.size gr.size, fun k hk hne => (gr.block k (Nat.lt_of_lt_of_le hk d.grow.size) (fun e => ?_)).trans (d.grow.block k hk hne)⟩⟩
 · have := hb p e.symm
   omega
 · rcases hr x hx with h1 | h1
   · refine .inl (fun e => ?_)
     have := hb _ e.symm
     omega
   · exact .inr h1
 · have := hb k e.symm
   omega
end
def i64v (x : Int) : Value := .int .i64 x
def OwnI (B : Nat) (w : World) (v : Value) (xs : List Int) : Prop := w.ownsRow B 3 1 v xs.length (xs.map i64v)
theorem infoInt : (Tryz.prog.info? 3).map (fun i => (i.zero, i.size, i.bytes)) = some (some (.int .i64 0), 1, 8) := by kernel_rfl
section
variable {B : Nat} {w w' : World} {v : Value} {xs : List Int}
theorem OwnI.form (h : OwnI B w v xs) : ∃ ad cap, v = .slice ad xs.length cap := by
 rcases h.2 with ⟨h0, hn⟩ | ⟨g, cap, cur, h1, _⟩
 · exact ⟨none, 0, by rw [h0, hn]⟩
 · exact ⟨_, _, h1⟩
theorem OwnI.below (h : OwnI B w v xs) (hb : Below w.heap.size w w') : OwnI B w' v xs := by
 refine World.ownsRow.kept h (grown_of_below hb) ?_
 cases hv : v.ownBlock <;> simp
theorem OwnI.new (h : OwnI B w v xs) (o : Obj) : OwnI B (w.alloc o) v xs := World.ownsRow.alloc h o
theorem OwnI.lt (h : OwnI B w v xs) {k : Nat} (hk : v.ownBlock = some k) : B ≤ k ∧ k < w.heap.size := World.ownsRow.lt h k hk
theorem owni_made (w : World) : OwnI w.heap.size (w.alloc (.cells #[] 3)) (.slice (some ⟨w.heap.size, 0, none⟩) 0 0) [] := World.ownsRow_made w #[] 0 (Nat.le_refl _) (by unfold maxLen; omega) (by simp)
def IntAt (w : World) (a : Option Addr) (n c : Nat) (xs : List Int) : Prop := xs.length = n ∧ n ≤ c ∧ ∀ (k : Nat) (x : Int), xs[k]? = some x → ∃ g, a = some ⟨g, 0, none⟩ ∧ w.cell? ⟨g, k, none⟩ = some (.int .i64 x)
theorem IntAt.below {a : Option Addr} {n c : Nat} (h : IntAt w a n c xs) (hb : Below w.heap.size w w') : IntAt w' a n c xs :=
 ⟨h.1, h.2.1, fun k x hk => by obtain ⟨g, e, hc⟩ := h.2.2 k x hk; exact ⟨g, e, (hb.cell (p := ⟨g, k, none⟩) (cell_lt hc)).trans hc⟩⟩
theorem OwnI.row {a : Option Addr} {n c : Nat} (h : OwnI B w (.slice a n c) xs) : IntAt w a n c xs := by
 rcases h.2 with ⟨h0, hn⟩ | ⟨g, cap, cur, h1, _, hc, hn, _, hs, ht⟩
 · cases h0
   refine ⟨hn, Nat.le_refl _, fun k x hk => ?_⟩
   have := (List.getElem?_eq_some_iff.1 hk).1
   omega
 · cases h1
   refine ⟨rfl, hn, fun k x hk => ⟨g, rfl, ?_⟩⟩
   have hk' := (List.getElem?_eq_some_iff.1 hk).1
   have h2 : w.cell? ⟨g, k, none⟩ = cur[k]? := by simp [World.cell?, hc]
   have h3 : (xs.map i64v)[k]? = some (i64v x) := by rw [List.getElem?_map, hk]; rfl
   rw [← ht, List.getElem?_take, if_pos (by omega)] at h3
   rw [h2, ← Array.getElem?_toList]
   exact h3
end
theorem op_pushI {B : Nat} {w : World} {v : Value} {xs : List Int} (ys : List Int) {ad : Addr} {c : Nat} {o : Oper} {act : Act} {K : Act → World → Prop} {Q : Exit → Act → World → Prop} (s x : Operand)
   (hop : o.op = .call { callee := .builtin .append, args := #[s, x], argTypes := #[74, 74] })
   (hs : act.eval s = v) {m : Nat} (hx : act.eval x = .slice (some ad) m c) (hm : ys.length = m) (hb : ∀ j u, (ys.map i64v)[j]? = some u → w.cell? (ad.add j) = some u) (h : OwnI B w v xs) (hB : B ≤ w.heap.size) (hl : xs.length + ys.length < 4194304)
   (hk : ∀ v' w', OwnI B w' v' (xs ++ ys) → w.grownBy w' v.ownBlock → K (act.put o.dst v') w') : o.wp Tryz.prog act w K Q := by
 subst hm
 obtain ⟨ti, hti, hz0, hz1, hz2⟩ := info_parts infoInt
 refine wp_append_own _ s x 74 hop B 3 ti (.int .i64 0) 1 8 Tryz.underlying74 hti hz0 hz1 hz2 rfl (by decide) v xs.length (xs.map i64v) hs h
   ad ys.length c (ys.map i64v) hx (by simp) hb (by simp [i64v, Value.oneCell']) (by unfold maxLen; omega) (by omega) hB ?_
 intro v' w' hown hg _
 refine hk v' w' ?_ hg
 unfold OwnI
 rw [List.length_append, List.map_append]
 exact hown
theorem new_int (w : World) (x : Int) : ∀ j u, ([x].map i64v)[j]? = some u → (w.alloc (.cells #[.int .i64 x] 3)).cell? ((⟨w.heap.size, 0, none⟩ : Addr).add j) = some u := by
 intro j u hj
 have e : (⟨w.heap.size, 0, none⟩ : Addr).add j = ⟨w.heap.size, j, none⟩ := by
   unfold Addr.add; split
   · subst_vars; rfl
   · simp
 rw [e]
 have hb : (w.alloc (.cells #[.int .i64 x] 3)).heap[w.heap.size]? = some (.cells #[.int .i64 x] 3 (0, 0)) := by
   show (w.heap.push _)[w.heap.size]? = _
   simp
 simp only [World.cell?, hb]
 simpa [i64v] using hj
theorem hx_byte (x : Nat) (c : UInt8) (h : x < 4294967296) : bits .xor .u32 (x : Int) ((c.toNat : Int) % 4294967296) * 16777619 % 4294967296 = ((hstep x c : Nat) : Int) := by
 have hc := c.toNat_lt
 have e : (c.toNat : Int) % 4294967296 = (c.toNat : Int) := by omega
 rw [e, u32_xor_nat x c.toNat h (by omega)]
 unfold hstep
 omega
theorem hash_end (l : List UInt8) : hashF 2166136261 l = hash l := rfl

set_option maxHeartbeats 400000 in
theorem specHash (s : ByteArray) (w : World) (hs : s.size ≤ maxLen) :
   Calls Tryz.prog 132 #[.string s] w fun e w' => e = .returned (.int .i64 (hash s.data.toList : Nat)) ∧ w = w' := by
 unfold maxLen at hs
 go_enter Tryz.func132, Tryz.ntmps132
 go_wp2_with fail
 go_loop [3, 4] (fun x i => ∃ k : Nat, k ≤ s.size ∧ i = .int .i64 k ∧ x = .int .u32 (hashF 2166136261 (s.data.toList.take k) : Nat)) (fun _ i => s.size - (intOf i).toNat)
 case atStart => exact ⟨0, Nat.zero_le _, rfl, rfl⟩
 case round =>
   obtain ⟨k, hk, rfl, rfl⟩ := hrel
   have hX := hashF_lt (s.data.toList.take k) (x := 2166136261) (by omega)
   by_cases hlt : k < s.size
   · have HS := Lib.hid (show hashF 2166136261 (s.data.toList.take (k + 1)) = hstep (hashF 2166136261 (s.data.toList.take k)) s[k] by rw [take_snoc s k hlt, hashF_snoc])
     have HB := Lib.hid (hx_byte _ s[k] hX)
     generalize hashF 2166136261 (s.data.toList.take k) = X at HS HB hX ⊢
     have HX := Lib.hid hX
     clear hX
     go_wp2
     go_round
     case rel => exact ⟨k + 1, by omega, by go_num, congrArg (Value.int IntKind.u32) (by rw [HB.out, HS.out])⟩
     case measure => simp [intOf]; omega
   · obtain rfl : k = s.size := by omega
     have e0 : s.data.toList.take s.size = s.data.toList := List.take_of_length_le (by simp)
     rw [e0] at hX ⊢
     go_wp2
     go_ret
     exact ⟨by rw [hash_end]; rfl, rfl⟩

def nums (l : List Nat) : List Int := l.map (fun n : Nat => (n : Int))
theorem nums_len (l : List Nat) : (nums l).length = l.length := by unfold nums; simp
theorem nums_snoc (l : List Nat) (n : Nat) : nums (l ++ [n]) = nums l ++ [(n : Int)] := by unfold nums; simp
def IntsOut (w : World) (l : List Nat) (e : Ending) (w' : World) : Prop := ∃ v, e = .returned v ∧ OwnI w.heap.size w' v (nums l) ∧ Below w.heap.size w w'

set_option maxHeartbeats 1000000 in
theorem specProbes_in (s : ByteArray) (b : Nat) (hb1 : 1 ≤ b) (hb2 : b ≤ 100000) (w : World) (hs : s.size ≤ maxLen) :
   Calls Tryz.prog 103 #[.string s, .int .i64 b] w (IntsOut w (six (hash s.data.toList) b 6)) := by
 have hh := hash_lt s.data.toList
 obtain ⟨H, hH⟩ : ∃ H, hash s.data.toList = H := ⟨_, rfl⟩
 have HH := Lib.hid hH
 rw [hH] at hh ⊢
 clear hH
 have hd := dlt_lt hh
 obtain ⟨D, hD⟩ : ∃ D, dlt H = D := ⟨_, rfl⟩
 have HDD := Lib.hid hD
 rw [hD] at hd
 clear hD
 have HS0 := Lib.hid (stand_zero hh)
 have HD := Lib.hid (show bits .or .u32 ((H : Int) / 131072) ((H : Int) * 32768 % 4294967296) = (D : Int) by
   have h1 := u32_or_nat (H / 131072) (H * 32768 % 4294967296) (by omega) (by omega)
   rw [show ((H / 131072 : Nat) : Int) = (H : Int) / 131072 by omega, show ((H * 32768 % 4294967296 : Nat) : Int) = (H : Int) * 32768 % 4294967296 by omega] at h1
   rw [h1, ← HDD.out]
   rfl)
 have O0 := Lib.hid (owni_made w)
 have B0 := Lib.hid ((Below.refl w.heap.size w).alloc (Nat.le_refl _) (.cells #[] 3))
 go_enter Tryz.func103, Tryz.ntmps103
 go_wp2_with fail
 refine (specIn_yes b 1 100000 _ (by omega) (by omega)).mono ?_
 rintro e w1 ⟨rfl, rfl⟩
 go_wp2_with fail
 refine (specHash s _ hs).mono ?_
 rw [HH.out]
 rintro e w1 ⟨rfl, rfl⟩
 go_wp2_with fail
 rw [HD.out]
 go_loopw [5, 6, 8] (fun vv hx ii wr => ∃ (j : Nat), j ≤ 6 ∧ ii = .int .i64 j ∧ hx = .int .u32 (stand H j : Nat) ∧ Hid (OwnI w.heap.size wr vv (nums (six H b j)) ∧ Below w.heap.size w wr)) (fun _ _ ii _ => 6 - (intOf ii).toNat)
 case atStart => exact ⟨0, by omega, rfl, by rw [HS0.out], ⟨O0.out, B0.out⟩⟩
 case round =>
   obtain ⟨j, hj, rfl, rfl, HX⟩ := hrel
   obtain ⟨ad, cp, hv⟩ := HX.out.1.form
   rw [nums_len, six_len] at hv
   subst hv
   have hst := stand_lt H j
   have HN := Lib.hid (stand_next H j)
   have HSN := Lib.hid (six_snoc H b j)
   obtain ⟨X, hX⟩ : ∃ X, stand H j = X := ⟨_, rfl⟩
   rw [hX] at hst HN HSN ⊢
   clear hX
   by_cases hlt : j < 6
   · have j1 : (j : Int) < 6 := by omega
     have hne : ¬ b = 0 := by omega
     have hxb : X % b < b := Nat.mod_lt _ (by omega)
     obtain ⟨p, hp⟩ : ∃ p, X % b = p := ⟨_, rfl⟩
     have HP := Lib.hid hp
     have hki : (X : Int).tmod (b : Int) = (p : Int) := by rw [← hp, Int.natCast_emod, Int.tmod_eq_emod_of_nonneg (by omega)]
     have hpl : p < b := by omega
     have hkw : IntKind.i64.wrap (p : Int) = (p : Int) := IntWalk.i64_in _ (by omega)
     clear hp hxb
     have N6 := Lib.hid (new_int wr (p : Int))
     have O6 := Lib.hid (HX.out.1.new (.cells #[.int .i64 (p : Int)] 3))
     have B6 := Lib.hid (HX.out.2.alloc HX.out.2.size (.cells #[.int .i64 (p : Int)] 3))
     have HL := Lib.hid (show (nums (six H b j)).length = j by rw [nums_len, six_len])
     clear HX
     go_wp2_with (at_builtin; refine wpList_plain rfl (fun K hK => ?_); refine op_pushI [(p : Int)] _ _ rfl rfl rfl rfl N6.out O6.out B6.out.size (by rw [HL.out]; simp; omega) ?_; intro v7 w7 o7 gr7; refine hK _ _ ?_; clear hK K; have L7 := Lib.hid (B6.out.grown gr7 B6.out.size (fun q e => (O6.out.lt e).1)); have O7 := Lib.hid o7; clear o7 gr7)
     go_roundw
     case rel => exact ⟨j + 1, by omega, by go_num, congrArg (Value.int IntKind.u32) (by rw [HN.out, HDD.out]; omega), ⟨by rw [HSN.out, HP.out, nums_snoc]; exact O7.out, L7.out⟩⟩
     case measure => simp [intOf]; omega
   · obtain rfl : j = 6 := by omega
     go_wp2
     go_ret
     exact ⟨_, rfl, HX.out.1, HX.out.2⟩
set_option maxHeartbeats 400000 in
theorem specProbes (s : ByteArray) (b : Int) (w : World) (hs : s.size ≤ maxLen) : Calls Tryz.prog 103 #[.string s, .int .i64 b] w (IntsOut w (probes s.data.toList b)) := by
 by_cases h : 1 ≤ b ∧ b ≤ 100000
 · obtain ⟨n, rfl⟩ := Int.eq_ofNat_of_zero_le (show 0 ≤ b by omega)
   rw [probes_yes (by omega) (by omega)]
   exact specProbes_in s n (by omega) (by omega) w hs
 · have HP := Lib.hid (probes_no (l := s.data.toList) (bits := b) (by omega))
   have O0 := Lib.hid (owni_made w)
   have B0 := Lib.hid ((Below.refl w.heap.size w).alloc (Nat.le_refl _) (.cells #[] 3))
   have HB := Lib.hid (show b < 1 ∨ 100000 < b by omega)
   clear h
   go_enter Tryz.func103, Tryz.ntmps103
   go_wp2_with fail
   refine (specIn_no b 1 100000 _ HB.out).mono ?_
   rintro e w1 ⟨rfl, rfl⟩
   go_wp2
   go_ret
   exact ⟨_, rfl, by rw [HP.out]; exact O0.out, B0.out⟩
theorem may_no {f key : List UInt8} {p : Nat} (hp : p ∈ probes key (8 * f.length : Nat)) (h : bitAt f p = false) : mayHave f key = false := by
 unfold mayHave
 rw [show (probes key (8 * f.length : Nat)).all (bitAt f) = false from List.all_eq_false.2 ⟨p, hp, by simp [h]⟩, Bool.and_false]
theorem may_none {f key : List UInt8} (h : probes key (8 * f.length : Nat) = []) : mayHave f key = false := by
 unfold mayHave
 rw [h]
 rfl
theorem may_yes {f key : List UInt8} (h0 : probes key (8 * f.length : Nat) ≠ []) (h : ∀ (j q : Nat), (probes key (8 * f.length : Nat))[j]? = some q → bitAt f q = true) : mayHave f key = true := by
 unfold mayHave
 rw [show (probes key (8 * f.length : Nat)).all (bitAt f) = true from List.all_eq_true.2 (fun q hq => by
   obtain ⟨j, hj⟩ := List.mem_iff_getElem?.1 hq
   exact h j q hj), Bool.and_true]
 cases hp : probes key (8 * f.length : Nat) with
 | nil => exact absurd hp h0
 | cons _ _ => rfl
theorem probes_len (l : List UInt8) (b : Int) : (probes l b).length ≤ 6 := by
 unfold probes
 split
 · rw [six_len]; omega
 · simp
theorem has_bit (x r : Nat) (h : x < 256) : (bits .and .u8 ((x : Int) / 2 ^ r) 1 == 0) = !(x.testBit r) := by
 have h2 : x / 2 ^ r ≤ x := Nat.div_le_self _ _
 have h3 := u8_and_nat (x / 2 ^ r) 1 (by omega) (by omega)
 rw [Int.natCast_ediv, show (((2 ^ r : Nat) : Int)) = (2 : Int) ^ r by simp, show ((1 : Nat) : Int) = 1 from rfl] at h3
 rw [h3, Nat.and_one_is_mod, Nat.testBit_eq_decide_div_mod_eq]
 have h4 : x / 2 ^ r % 2 = 0 ∨ x / 2 ^ r % 2 = 1 := by omega
 rcases h4 with h4 | h4 <;> rw [h4] <;> rfl
theorem bit_at (f : ByteArray) (p q r : Nat) (h : q < f.size) (hq : p / 8 = q) (hr : p % 8 = r) : bitAt f.data.toList p = f[q].toNat.testBit r := by
 unfold bitAt
 rw [hq, hr, List.getD_eq_getElem?_getD, byte_at f q h]
 rfl
theorem probes_lt {l : List UInt8} {m p : Nat} (hp : p ∈ probes l (m : Int)) : p < m := by
 unfold probes at hp
 split at hp
 · rw [Int.toNat_natCast] at hp
   exact six_lt (by omega) hp
 · simp at hp
theorem nums_at {l : List Nat} {k : Nat} {p : Nat} (h : l[k]? = some p) : (nums l)[k]? = some (p : Int) := by unfold nums; rw [List.getElem?_map, h]; rfl

set_option maxHeartbeats 1000000 in
theorem specMayHave (f s : ByteArray) (w : World) (hf : f.size ≤ 1048576) (hs : s.size ≤ maxLen) :
   Calls Tryz.prog 76 #[.string f, .string s] w fun e w' => e = .returned (.bool (mayHave f.data.toList s.data.toList)) ∧ Below w.heap.size w w' := by
 have hfl : f.data.toList.length = f.size := by simp
 have HFL := Lib.hid hfl
 clear hfl
 have H8 := Lib.hid (show (8 : Int) * (f.size : Int) = ((8 * f.size : Nat) : Int) by omega)
 go_enter Tryz.func76, Tryz.ntmps76
 go_wp2_with fail
 rw [H8.out]
 refine (specProbes s ((8 * f.size : Nat) : Int) _ hs).mono ?_
 rintro e w1 ⟨v, rfl, o1, b1⟩
 obtain ⟨ad, cp, rfl⟩ := o1.form
 have HPL := Lib.hid (show ∀ p, p ∈ probes s.data.toList ((8 * f.size : Nat) : Int) → p < 8 * f.size from fun p hp => probes_lt hp)
 obtain ⟨ps, hps⟩ : ∃ ps, probes s.data.toList ((8 * f.size : Nat) : Int) = ps := ⟨_, rfl⟩
 have HPS := Lib.hid (show probes s.data.toList ((8 * f.data.toList.length : Nat) : Int) = ps by rw [HFL.out]; exact hps)
 rw [hps] at HPL o1 ⊢
 rw [nums_len] at o1 ⊢
 have R1 := Lib.hid o1.row
 have B1 := Lib.hid b1
 have hnc := R1.out.2.1
 obtain ⟨n, hn⟩ : ∃ n, ps.length = n := ⟨_, rfl⟩
 have HN := Lib.hid hn
 have hn6 : n ≤ 6 := by rw [← hn, ← hps]; exact probes_len _ _
 rw [hn] at R1 hnc ⊢
 clear o1 b1 hps hn
 go_wp2_with fail
 go_loopw [6] (fun ii wr => ∃ k : Nat, k ≤ n ∧ ii = .int .i64 k ∧ Hid (∀ j q : Nat, j < k → ps[j]? = some q → bitAt f.data.toList q = true) ∧ ∃ m, wr = w1.drewN m) (fun ii _ => n - (intOf ii).toNat)
 case atStart => exact ⟨0, by omega, rfl, fun j q hj => absurd hj (by omega), 0, rfl⟩
 case round =>
   obtain ⟨k, hk, rfl, HA, m, rfl⟩ := hrel
   by_cases hlt : k < n
   · obtain ⟨p, hp⟩ : ∃ p, ps[k]? = some p := ⟨_, List.getElem?_eq_getElem (by rw [HN.out]; exact hlt)⟩
     obtain ⟨g, hg, c0⟩ := R1.out.2.2 k (p : Int) (nums_at hp)
     subst hg
     have hpl := HPL.out p (List.mem_of_getElem? hp)
     have HP := Lib.hid hp
     have k1 : (k : Int) < (n : Int) := by omega
     have k0 : (0 : Int) ≤ (k : Int) := by omega
     obtain ⟨q, hq⟩ : ∃ q, p / 8 = q := ⟨_, rfl⟩
     obtain ⟨r, hr⟩ : ∃ r, p % 8 = r := ⟨_, rfl⟩
     have hqf : q < f.size := by omega
     have hr8 : r < 8 := by omega
     have e1 : (p : Int) / 8 = (q : Int) := by omega
     have e2 : (p : Int) % 8 = (r : Int) := by omega
     have e3 : (q : Int) < (f.size : Int) := by omega
     obtain ⟨b, hb⟩ : ∃ b, f[q].toNat.testBit r = b := ⟨_, rfl⟩
     have HB := Lib.hid (show bitAt f.data.toList p = b by rw [bit_at f p q r hqf hq hr]; exact hb)
     have hbit := has_bit f[q].toNat r f[q].toNat_lt
     rw [hb] at hbit
     clear hp hb hq hr
     cases b
     · have hbit : (bits .and .u8 ((f[q].toNat : Int) / 2 ^ r) 1 == 0) = true := hbit
       go_wp2_with fail
       go_quiet (fail)
       go_wp2
       go_ret
       exact ⟨by rw [may_no (by rw [HPS.out]; exact List.mem_of_getElem? HP.out) HB.out]; rfl, B1.out.trans ((below_draws m).trans (below_draws _))⟩
     · have hbit : (bits .and .u8 ((f[q].toNat : Int) / 2 ^ r) 1 == 0) = false := hbit
       go_wp2_with fail
       go_quiet (fail)
       go_wp2
       go_roundw
       case rel =>
         refine ⟨k + 1, by omega, by go_num, fun j q hj hq => ?_, _, rfl⟩
         rcases Nat.lt_succ_iff_lt_or_eq.1 hj with h | rfl
         · exact HA.out j q h hq
         · rw [HP.out] at hq
           cases hq
           exact HB.out
       case measure => simp [intOf]; omega
   · obtain rfl : k = n := by omega
     go_wp2
     go_ret
     refine ⟨ret_bool ?_, B1.out.trans (below_draws m)⟩
     by_cases h0 : k = 0
     · subst h0
       rw [may_none (by rw [HPS.out]; exact List.eq_nil_of_length_eq_zero HN.out)]
       simp
     · rw [may_yes (by rw [HPS.out]; intro e; have := HN.out; rw [e] at this; simp at this; omega) (fun j q hq => by
         rw [HPS.out] at hq
         exact HA.out j q (by have := (List.getElem?_eq_some_iff.1 hq).1; rw [HN.out] at this; exact this) hq)]
       simp
       omega
theorem BArr.later {w0 w w' : World} {g : Nat} {xs : List UInt8} (t : BArr w0 w g xs) (hb : Below w.heap.size w w') : BArr w0 w' g xs :=
 ⟨(hb.block g (Array.getElem?_eq_some_iff.1 t.block).1).trans t.block, t.own, t.below.trans (hb.mono t.below.size)⟩
theorem OwnI.grown {B p : Nat} {w w' : World} {v : Value} {ys : List Int} (h : OwnI B w v ys) (hg : w.grownBy w' (some p)) (hp : p < B) : OwnI B w' v ys := by
 refine World.ownsRow.kept h hg ?_
 cases hv : v.ownBlock with
 | none => exact .inl rfl
 | some k =>
   refine .inr (fun e => ?_)
   have := (h.lt hv).1
   cases e
   omega
theorem fsize_in {n : Nat} (h : 1 ≤ n) : (10 * n + 7) / 8 = fsize n := by unfold fsize; rw [if_neg (by omega)]
theorem setBit_is (bs : List UInt8) (p q r : Nat) (hq : p / 8 = q) (hr : p % 8 = r) : setBit bs p = bs.set q (UInt8.ofNat ((bs.getD q 0).toNat ||| 2 ^ r)) := by subst hq hr; rfl

theorem or_bit (x : UInt8) (r : Nat) (h : r < 8) : bits .or .u8 (x.toNat : Int) (2 ^ min r 8 % 256) = ((UInt8.ofNat (x.toNat ||| 2 ^ r)).toNat : Int) := by
 have hx := x.toNat_lt
 rw [or_pow x r h]
 have e : (2 : Int) ^ min r 8 % 256 = ((2 ^ r : Nat) : Int) := by
   rcases (show r = 0 ∨ r = 1 ∨ r = 2 ∨ r = 3 ∨ r = 4 ∨ r = 5 ∨ r = 6 ∨ r = 7 by omega) with h | h | h | h | h | h | h | h <;> subst h <;> rfl
 rw [e]
 exact u8_or_nat x.toNat (2 ^ r) hx (Nat.pow_lt_pow_right (n := 8) (by omega) h)
set_option maxHeartbeats 2000000 in
set_option maxRecDepth 100000 in
theorem specFilter_in (a : Option Addr) (n c : Nat) (keys : List ByteArray) (hn1 : 1 ≤ n) (hn2 : n ≤ 200) (hf : FitS keys) (w : World) (h : StrAt w a n c keys) :
   Calls Tryz.prog 58 #[.slice a n c] w fun e w' => e = .returned (.string ⟨(filterB (lists keys)).toArray⟩) ∧ Below w.heap.size w w' := by
 have HS := Lib.hid h
 have HF := Lib.hid hf
 have hnc := h.2.1
 obtain ⟨M, hM⟩ : ∃ M, fsize n = M := ⟨_, rfl⟩
 have hM1 : 1 ≤ M := by rw [← hM]; exact fsize_pos n
 have hM2 : M ≤ 250 := by rw [← hM]; exact fsize_le hn2
 have hMi : ((10 : Int) * (n : Int) + 7) / 8 = (M : Int) := by have := fsize_in hn1; omega
 have hMz : ((M : Int) == 0) = false := by simp; omega
 have HMM := Lib.hid hM
 have H8 := Lib.hid (show (8 : Int) * (M : Int) = ((8 * M : Nat) : Int) by omega)
 clear h hf hM
 go_enter Tryz.func58, Tryz.ntmps58
 go_wp2_with (at_make; refine wp_makeB rfl _ _ rfl _ _ M rfl rfl (by first | rfl | exact hMi) (by first | rfl | exact hMi) (by omega) ?_; intro w2 t2; have T2 := Lib.hid t2; clear t2)
 go_loopw [5, 6, 7] (fun ii uu kk wr => ∃ i : Nat, i ≤ n ∧ ii = .int .i64 i ∧ Hid (BArr w wr w.heap.size (fillF (8 * M) (List.replicate M 0) ((lists keys).take i)))) (fun ii _ _ _ => n - (intOf ii).toNat)
 case atStart => exact ⟨0, Nat.zero_le _, rfl, T2.out⟩
 case round =>
   obtain ⟨i, hi, rfl, TT⟩ := hrel
   by_cases hlt : i < n
   · obtain ⟨s, hs⟩ : ∃ s, keys[i]? = some s := ⟨_, List.getElem?_eq_getElem (by rw [HS.out.1]; exact hlt)⟩
     obtain ⟨g, hg, cs⟩ := HS.out.2.2 i _ hs
     subst hg
     have c0 := (TT.out.below.cell (p := ⟨g, i, none⟩) (cell_lt cs)).trans cs
     have HK := Lib.hid (show fillF (8 * M) (List.replicate M 0) ((lists keys).take (i + 1)) = setAll (fillF (8 * M) (List.replicate M 0) ((lists keys).take i)) (six (hash s.data.toList) (8 * M) 6) by
       rw [take_next (lists_at hs), fillF_snoc])
     have HLL := Lib.hid (show (fillF (8 * M) (List.replicate M 0) ((lists keys).take i)).length = M by rw [fillF_len, List.length_replicate])
     have HSF := Lib.hid (HF.out s (List.mem_of_getElem? hs))
     obtain ⟨base, hbase⟩ : ∃ base, fillF (8 * M) (List.replicate M 0) ((lists keys).take i) = base := ⟨_, rfl⟩
     rw [hbase] at HK HLL TT
     have i1 : (i : Int) < (n : Int) := by omega
     have i0 : (0 : Int) ≤ (i : Int) := by omega
     clear hs cs hbase
     go_wp2_with fail
     rw [H8.out]
     refine (specProbes s ((8 * M : Nat) : Int) _ HSF.out).mono ?_
     rintro e w3 ⟨v, rfl, o3, b3⟩
     rw [probes_yes (by omega) (by omega)] at o3
     have T3 := Lib.hid (TT.out.later b3)
     have hgl := (Array.getElem?_eq_some_iff.1 TT.out.block).1
     have HPL := Lib.hid (show ∀ p, p ∈ six (hash s.data.toList) (8 * M) 6 → p < 8 * M from fun p hp => six_lt (by omega) hp)
     obtain ⟨ps, hps⟩ : ∃ ps, six (hash s.data.toList) (8 * M) 6 = ps := ⟨_, rfl⟩
     have hp6 : ps.length = 6 := by rw [← hps, six_len]
     rw [hps] at o3 HPL HK
     obtain ⟨ad, cp, rfl⟩ := o3.form
     rw [nums_len, hp6] at o3 ⊢
     have HP6 := Lib.hid hp6
     have O3 := Lib.hid o3
     obtain ⟨B3, hB3⟩ : ∃ B, wr.heap.size = B := ⟨_, rfl⟩
     rw [hB3] at O3 hgl
     clear o3 hps hp6 b3 c0 i1 i0 hB3
     go_wp2_with fail
     go_loopw [7] (fun kk wr => ∃ k : Nat, k ≤ 6 ∧ kk = .int .i64 k ∧ Hid (BArr w wr w.heap.size (setAll base (ps.take k)) ∧ OwnI B3 wr (.slice ad 6 cp) (nums ps))) (fun kk _ => 6 - (intOf kk).toNat)
     case atStart => exact ⟨0, by omega, rfl, ⟨T3.out, O3.out⟩⟩
     case round =>
       obtain ⟨k, hk, rfl, HX⟩ := hrel
       by_cases hlk : k < 6
       · obtain ⟨p, hp⟩ : ∃ p, ps[k]? = some p := ⟨_, List.getElem?_eq_getElem (by rw [HP6.out]; exact hlk)⟩
         obtain ⟨g2, hg, c2⟩ := HX.out.2.row.2.2 k (p : Int) (nums_at hp)
         subst hg
         have hpl := HPL.out p (List.mem_of_getElem? hp)
         obtain ⟨q, hq⟩ : ∃ q, p / 8 = q := ⟨_, rfl⟩
         obtain ⟨r, hr⟩ : ∃ r, p % 8 = r := ⟨_, rfl⟩
         have hqM : q < M := by omega
         have hr8 : r < 8 := by omega
         have HL2 := Lib.hid (show (setAll base (ps.take k)).length = M by rw [setAll_len, HLL.out])
         have HT := Lib.hid (show setAll base (ps.take (k + 1)) = (setAll base (ps.take k)).set q (UInt8.ofNat (((setAll base (ps.take k)).getD q 0).toNat ||| 2 ^ r)) by rw [take_next hp, setAll_snoc, setBit_is _ _ _ _ hq hr])
         have c3 := HX.out.1.cell q (by rw [HL2.out]; exact hqM)
         have f3 := HX.out.1.frozen q
         have e1 : (p : Int) / 8 = (q : Int) := by omega
         have e2 : (p : Int) % 8 = (r : Int) := by omega
         have e5 : (p : Int).tmod 8 = (r : Int) := by rw [Int.tmod_eq_emod_of_nonneg (by omega)]; exact e2
         have e3 : IntKind.i64.wrap (q : Int) = (q : Int) := IntWalk.i64_in _ (by omega)
         have e4 : IntKind.i64.wrap (r : Int) = (r : Int) := IntWalk.i64_in _ (by omega)
         obtain ⟨x, hx⟩ : ∃ x, (setAll base (ps.take k)).getD q 0 = x := ⟨_, rfl⟩
         rw [hx] at c3 HT
         change wr.cell? ⟨w.heap.size, q, none⟩ = some (.int .u8 (x.toNat : Int)) at c3
         have HV := Lib.hid (or_bit x r hr8)
         have k1 : (k : Int) < 6 := by omega
         have k0 : (0 : Int) ≤ (k : Int) := by omega
         have q1 : (q : Int) < (M : Int) := by omega
         have q0 : (0 : Int) ≤ (q : Int) := by omega
         clear hp hx hq hr
         go_wp2_with fail
         refine wp_region_still_tail 23 (by kernel_rfl) (by kernel_rfl) ?_
         simp only [List.take_succ_cons, List.take_zero, List.drop_succ_cons, List.drop_zero]
         iterate 23 still_step
         refine wpStill_nil ?_
         change wpList _ _ _ _ _ wr.drew
         go_wp2
         go_roundw
         case rel =>
           refine ⟨k + 1, by omega, by go_num, ?_, ?_⟩
           · rw [HT.out]
             exact (HX.out.1.set q _ (by rw [HV.out]; rfl)).drewN 1
           · exact (HX.out.2.grown (grown_set _ _ _ _) hgl).below (below_draws 1)
         case measure => simp [intOf]; omega
       · obtain rfl : k = 6 := by omega
         have HE := Lib.hid (show BArr w wr w.heap.size (fillF (8 * M) (List.replicate M 0) ((lists keys).take (i + 1))) by
           have := HX.out.1
           rw [List.take_of_length_le (by rw [HP6.out]; omega)] at this
           rw [HK.out]
           exact this)
         go_wp2
         go_roundw
         case rel => exact ⟨i + 1, by omega, by go_num, HE.out⟩
         case measure => simp [intOf]; omega
   · obtain rfl : i = n := by omega
     have HE := Lib.hid (show fillF (8 * M) (List.replicate M 0) ((lists keys).take i) = filterB (lists keys) by
       rw [List.take_of_length_le (by rw [lists_len, HS.out.1]; omega)]
       unfold filterB
       rw [if_pos (by rw [lists_len, HS.out.1]; omega), lists_len, HS.out.1, HMM.out])
     have hcv := TT.out.str (c := M) (n := M) (by rw [fillF_len, List.length_replicate])
     rw [HE.out] at hcv
     go_wp2
     go_ret
     exact ⟨rfl, TT.out.below⟩
theorem specFilter_none (a : Option Addr) (c : Nat) (w : World) :
   Calls Tryz.prog 58 #[.slice a 0 c] w fun e w' => e = .returned (.string ⟨(filterB []).toArray⟩) ∧ Below w.heap.size w w' := by
 go_enter Tryz.func58, Tryz.ntmps58
 go_wp2_with (at_make; refine wp_makeB rfl _ _ rfl _ _ 1 rfl rfl rfl rfl (by omega) ?_; intro w2 t2; have T2 := Lib.hid t2; clear t2)
 go_loopw [5, 6, 7] (fun ii uu kk wr => ii = .int .i64 0 ∧ wr = w2) (fun ii _ _ _ => 0)
 case atStart => exact ⟨rfl, rfl⟩
 case round =>
   obtain ⟨rfl, rfl⟩ := hrel
   have hcv := T2.out.str (c := 1) (n := 1) (by simp)
   go_wp2
   go_ret
   exact ⟨rfl, T2.out.below⟩
theorem specFilter (a : Option Addr) (n c : Nat) (keys : List ByteArray) (hn : n ≤ 1048576) (hf : FitS keys) (w : World) (h : StrAt w a n c keys) :
   Calls Tryz.prog 58 #[.slice a n c] w fun e w' => e = .returned (.string ⟨(filterB (lists keys)).toArray⟩) ∧ Below w.heap.size w w' := by
 by_cases h0 : n = 0
 · subst h0
   have : keys = [] := List.eq_nil_of_length_eq_zero h.1
   subst this
   exact specFilter_none a c w
 · by_cases h2 : n ≤ 200
   · exact specFilter_in a n c keys (by omega) h2 hf w h
   · have HE := Lib.hid (filter_no (keys := lists keys) (by rw [lists_len, h.1]; omega))
     have hnc := h.2.1
     have h2i : (200 : Int) < (n : Int) := by omega
     clear h hf
     go_enter Tryz.func58, Tryz.ntmps58
     go_wp2
     go_ret
     exact ⟨by rw [HE.out]; rfl, Below.refl _ _⟩
end Go.Proofs.YtkomnnijnggbpaaGreatDoor
/- The program's Hash, and its iterator over the places of a key. -/
namespace Go.Proofs.YtkomnnijnggbpaaGreatDoor
open Go.RowKit Go.Shelf
set_option linter.unusedVariables false
attribute [local go_sem] Oper.semAt_some

set_option maxHeartbeats 400000 in
theorem implHashOf (s : ByteArray) (w : World) (hs : s.size ≤ maxLen) :
   Calls Tryz.prog 144 #[.string s] w fun e w' => e = .returned (.int .u32 (hash s.data.toList : Nat)) ∧ w' = w := by
 unfold maxLen at hs
 go_enter Tryz.func144, Tryz.ntmps144
 go_wp2_with fail
 go_loop [3, 7] (fun x i => ∃ k : Nat, k ≤ s.size ∧ i = .int .i64 k ∧ x = .int .u32 (hashF 2166136261 (s.data.toList.take k) : Nat)) (fun _ i => s.size - (intOf i).toNat)
 case atStart => exact ⟨0, Nat.zero_le _, rfl, rfl⟩
 case round =>
   obtain ⟨k, hk, rfl, rfl⟩ := hrel
   have hX := hashF_lt (s.data.toList.take k) (x := 2166136261) (by omega)
   by_cases hlt : k < s.size
   · have HS := Lib.hid (show hashF 2166136261 (s.data.toList.take (k + 1)) = hstep (hashF 2166136261 (s.data.toList.take k)) s[k] by rw [take_snoc s k hlt, hashF_snoc])
     have HB := Lib.hid (hx_byte _ s[k] hX)
     generalize hashF 2166136261 (s.data.toList.take k) = X at HS HB hX ⊢
     have HX := Lib.hid hX
     clear hX
     go_wp2
     go_round
     case rel => exact ⟨k + 1, by omega, by go_num, congrArg (Value.int IntKind.u32) (by rw [HB.out, HS.out])⟩
     case measure => simp [intOf]; omega
   · obtain rfl : k = s.size := by omega
     have e0 : s.data.toList.take s.size = s.data.toList := List.take_of_length_le (by simp)
     rw [e0] at hX ⊢
     go_wp2
     go_ret
     exact ⟨by rw [hash_end]; rfl, rfl⟩

theorem bitsOk_at (b : Int) (w : World) : Calls Tryz.prog 115 #[.int .i64 b] w fun e w' => e = .returned (.bool (decide (1 ≤ b ∧ b ≤ 100000))) ∧ w' = w := by
 by_cases h1 : 1 ≤ b
 · by_cases h2 : b ≤ 100000
   · go_enter Tryz.func115, Tryz.ntmps115
     go_wp2
     go_ret
     exact ⟨ret_bool (by rw [decide_eq_true (show 1 ≤ b ∧ b ≤ 100000 from ⟨h1, h2⟩)]), rfl⟩
   · go_enter Tryz.func115, Tryz.ntmps115
     go_wp2
     go_ret
     exact ⟨ret_bool (by simp; omega), rfl⟩
 · go_enter Tryz.func115, Tryz.ntmps115
   go_wp2
   go_ret
   exact ⟨ret_bool (by simp; omega), rfl⟩

theorem implBitAt (p r : Nat) (hp : p % 8 = r) (hb : p < 1000000) (w : World) : Calls Tryz.prog 117 #[.int .i64 p] w fun e w' => e = .returned (.int .u8 (2 ^ min r 8 % 256)) ∧ w' = w := by
 have hr8 : r < 8 := by omega
 have e5 : (p : Int).tmod 8 = (r : Int) := by rw [Int.tmod_eq_emod_of_nonneg (by omega)]; omega
 have e4 : IntKind.i64.wrap (r : Int) = (r : Int) := IntWalk.i64_in _ (by omega)
 go_enter Tryz.func117, Tryz.ntmps117
 go_wp2
 go_ret
 refine ⟨?_, rfl⟩
 rw [Nat.min_eq_left (by omega)]
 rfl

theorem placesOf_at (n : Nat) (s : ByteArray) (b : Int) (w : World) :
   CallsIn Fence.wide n Tryz.prog 116 #[.string s, .int .i64 b] w fun e w' => e = .returned (.func (.func 143) #[] #[.pointer (some ⟨w.heap.size + 1, 0, none⟩), .pointer (some ⟨w.heap.size, 0, none⟩)]) ∧
     w' = (w.alloc (.cells #[.string s] 9)).alloc (.cells #[.int .i64 b] 3) := by
 refine callsIn_wide.2 ?_
 go_enter Tryz.func116, Tryz.ntmps116
 go_wp2
 go_ret
 exact ⟨rfl, rfl⟩

def KeptTwo (A B : Nat) (W W' : World) : Prop := W'.heap[A]? = W.heap[A]? ∧ W'.heap[B]? = W.heap[B]?
theorem KeptTwo.trans {A B : Nat} {X Y Z : World} (h : KeptTwo A B X Y) (k : KeptTwo A B Y Z) : KeptTwo A B X Z := ⟨k.1.trans h.1, k.2.trans h.2⟩
theorem keptTwo_put {A B : Nat} {w : World} (hA : A < w.heap.size) (hB : B < w.heap.size) : ∀ (W : World) (l : Nat) (o o' : Obj), w.heap.size ≤ l → W.heap[l]? = some o → o.isCells = false → o.isWalk = false → KeptTwo A B W (W.putObj l o') :=
 fun W l o o' hl _ _ _ => ⟨World.putObj_heap_other (by omega), World.putObj_heap_other (by omega)⟩

structure Spot (b : Nat) where
 at_ : Nat
 lt : at_ < b
def spots {b : Nat} (l : List (Spot b)) : List Nat := l.map Spot.at_
theorem spots_snoc {b : Nat} (l : List (Spot b)) (x : Spot b) : spots (l ++ [x]) = spots l ++ [x.at_] := by unfold spots; simp
theorem spots_len {b : Nat} (l : List (Spot b)) : (spots l).length = l.length := by unfold spots; simp

theorem six_pre (h b : Nat) {j n : Nat} (hj : j ≤ n) : six h b j <+: six h b n := by
 rw [List.prefix_iff_eq_take, six_len]
 unfold six
 rw [← List.map_take, List.take_range, Nat.min_eq_left hj]
set_option maxRecDepth 100000 in
set_option maxHeartbeats 1000000 in
theorem places_in (n l Bk Bb : Nat) (s : ByteArray) (b : Nat) (h1 : 1 ≤ b) (h2 : b ≤ 100000) (hs : s.size ≤ maxLen) (J Jx : List (Spot b) → World → Prop)
   (hY : ∀ pre (x : Spot b) W, J pre W → pre.length < 6 → YieldAt Fence.wide (n - 1) Tryz.prog l #[.int .i64 x.at_] W fun e W' =>
     (e = .returned (.bool true) ∧ J (pre ++ [x]) W' ∧ KeptTwo Bk Bb W W') ∨ (e = .returned (.bool false) ∧ Jx (pre ++ [x]) W'))
   (W : World) (hk : Boxed W Bk 9 (.string s)) (hb : Boxed W Bb 3 (.int .i64 b)) (h0 : J [] W) :
   CallsIn Fence.wide n Tryz.prog 143 #[.func (.yield l) #[] #[], .pointer (some ⟨Bb, 0, none⟩), .pointer (some ⟨Bk, 0, none⟩)] W fun e W' => (∃ v, e = .returned v) ∧
     ((∃ ys, spots ys = six (hash s.data.toList) b 6 ∧ J ys W') ∨ (∃ pre, spots pre <+: six (hash s.data.toList) b 6 ∧ Jx pre W')) := by
 have hh := hash_lt s.data.toList
 obtain ⟨H, hH⟩ : ∃ H, hash s.data.toList = H := ⟨_, rfl⟩
 have HH := Lib.hid hH
 rw [hH] at hh ⊢
 clear hH
 have hd := dlt_lt hh
 obtain ⟨D, hD⟩ : ∃ D, dlt H = D := ⟨_, rfl⟩
 have HDD := Lib.hid hD
 rw [hD] at hd
 clear hD
 have HS0 := Lib.hid (stand_zero hh)
 have HD := Lib.hid (show bits .or .u32 ((H : Int) * 32768 % 4294967296) ((H : Int) / 131072) = (D : Int) by
   have h1 := u32_or_nat (H * 32768 % 4294967296) (H / 131072) (by omega) (by omega)
   rw [show ((H / 131072 : Nat) : Int) = (H : Int) / 131072 by omega, show ((H * 32768 % 4294967296 : Nat) : Int) = (H : Int) * 32768 % 4294967296 by omega] at h1
   rw [h1, ← HDD.out, Nat.or_comm]
   rfl)
 have ck := hk.cell
 have cb := hb.cell
 have HY := Lib.hid hY
 have H0 := Lib.hid h0
 have BB := Lib.hid (And.intro hk hb)
 clear hY h0 hk hb
 refine callsIn_of_wp Tryz.func143 rfl trivial ?_ rfl
 simp only [Tryz.ntmps143, List.size_toArray, List.length_cons, List.length_nil, Nat.reduceAdd, Nat.reduceSub, Array.replicate_succ, Array.replicate_zero, List.push_toArray, List.append_toArray, List.nil_append, List.cons_append]
 gi_wp2_with fail
 refine ⟨trivial, (fun h => by cases h), ?_⟩
 refine (callsIn_wide.2 (bitsOk_at (b : Int) _)).mono ?_
 rintro e w1 ⟨rfl, rfl⟩
 rw [show decide (1 ≤ (b : Int) ∧ (b : Int) ≤ 100000) = true from decide_eq_true (by omega)]
 gi_wp2_with fail
 refine ⟨trivial, (fun h => by cases h), ?_⟩
 refine (callsIn_wide.2 (implHashOf s _ hs)).mono ?_
 rw [HH.out]
 rintro e w1 ⟨rfl, rfl⟩
 gi_wp2_with fail
 rw [HD.out]
 gi_loopw [4, 16] (fun hx ii wr => ∃ (j : Nat) (pre : List (Spot b)), j ≤ 6 ∧ ii = .int .i64 j ∧ hx = .int .u32 (stand H j : Nat) ∧ Boxed wr Bk 9 (.string s) ∧ Boxed wr Bb 3 (.int .i64 b) ∧ J pre wr ∧ spots pre = six H b j)
   (fun _ ii _ => 6 - (intOf ii).toNat)
 case atStart => exact ⟨0, [], by omega, rfl, by rw [HS0.out], BB.out.1, BB.out.2, H0.out, rfl⟩
 case round =>
   obtain ⟨j, pre, hj, rfl, rfl, bk, bb, hJ, hsp⟩ := hrel
   clear ck cb
   have ck := bk.cell
   have cb := bb.cell
   have BW := Lib.hid (And.intro bk bb)
   have HJ := Lib.hid hJ
   have HSP := Lib.hid hsp
   clear bk bb hJ hsp
   have hst := stand_lt H j
   have HN := Lib.hid (stand_next H j)
   have HSN := Lib.hid (six_snoc H b j)
   obtain ⟨X, hX⟩ : ∃ X, stand H j = X := ⟨_, rfl⟩
   rw [hX] at hst HN HSN ⊢
   clear hX
   by_cases hlt : j < 6
   · have j1 : (j : Int) < 6 := by omega
     have hne : ¬ b = 0 := by omega
     have hpl : X % b < b := Nat.mod_lt _ (by omega)
     obtain ⟨p, hp⟩ : ∃ p, X % b = p := ⟨_, rfl⟩
     rw [hp] at hpl
     have HP := Lib.hid hp
     have hki : (X : Int).tmod (b : Int) = (p : Int) := by rw [← hp, Int.natCast_emod, Int.tmod_eq_emod_of_nonneg (by omega)]
     have hkw : IntKind.i64.wrap (p : Int) = (p : Int) := IntWalk.i64_in _ (by omega)
     have HS2 := Lib.hid (show spots (pre ++ [(⟨p, hpl⟩ : Spot b)]) = six H b (j + 1) by rw [spots_snoc, HSP.out, HSN.out, HP.out])
     obtain ⟨fn, tmps, assign, body, hy, hR⟩ := HY.out pre ⟨p, hpl⟩ wr HJ.out (by rw [← spots_len, HSP.out, six_len]; exact hlt)
     clear hp
     gi_wp2_with fail
     refine ⟨(fun h => by cases h), hR.mono ?_⟩
     rintro e W3 (⟨rfl, hJ3, hk3⟩ | ⟨rfl, hJx3⟩)
     · have bk3 : Boxed W3 Bk 9 (.string s) := hk3.1.trans BW.out.1
       have bb3 : Boxed W3 Bb 3 (.int .i64 b) := hk3.2.trans BW.out.2
       have HJ3 := Lib.hid hJ3
       clear hJ3 hk3 hy hR
       gi_wp2
       go_roundw
       case rel => exact ⟨j + 1, _, by omega, by go_num, congrArg (Value.int IntKind.u32) (by rw [HN.out, HDD.out]; omega), bk3, bb3, HJ3.out, HS2.out⟩
       case measure => simp [intOf]; omega
     · have HX := Lib.hid hJx3
       clear hJx3 hy hR
       gi_wp2
       refine bodyPost_ret (results_none rfl _ _ _) rfl ?_
       exact ⟨⟨_, rfl⟩, .inr ⟨_, by rw [HS2.out]; exact six_pre H b (by omega), HX.out⟩⟩
   · gi_wp2
     go_end0
     obtain rfl : j = 6 := by omega
     exact ⟨⟨_, rfl⟩, .inl ⟨pre, HSP.out, HJ.out⟩⟩

theorem places_no (n l Bk Bb : Nat) (s : ByteArray) (b : Int) (hbad : b < 1 ∨ 100000 < b) (W : World) (hb : Boxed W Bb 3 (.int .i64 b)) :
   CallsIn Fence.wide n Tryz.prog 143 #[.func (.yield l) #[] #[], .pointer (some ⟨Bb, 0, none⟩), .pointer (some ⟨Bk, 0, none⟩)] W fun e W' => (∃ v, e = .returned v) ∧ W' = W := by
 have cb := hb.cell
 have hd : decide (1 ≤ b ∧ b ≤ 100000) = false := decide_eq_false (by omega)
 clear hb hbad
 refine callsIn_of_wp Tryz.func143 rfl trivial ?_ rfl
 simp only [Tryz.ntmps143, List.size_toArray, List.length_cons, List.length_nil, Nat.reduceAdd, Nat.reduceSub, Array.replicate_succ, Array.replicate_zero, List.push_toArray, List.append_toArray, List.nil_append, List.cons_append]
 gi_wp2_with fail
 refine ⟨trivial, (fun h => by cases h), ?_⟩
 refine (callsIn_wide.2 (bitsOk_at b _)).mono ?_
 rintro e w1 ⟨rfl, rfl⟩
 rw [hd]
 gi_wp2
 refine bodyPost_ret (results_none rfl _ _ _) rfl ?_
 exact ⟨⟨_, rfl⟩, rfl⟩
theorem places_stops (n Bk Bb : Nat) (s : ByteArray) (b : Int) (m : Nat) (hm : b.toNat = m) (hs : s.size ≤ maxLen) (w : World) (hk : Boxed w Bk 9 (.string s)) (hb : Boxed w Bb 3 (.int .i64 b)) :
   SeqStopsK Fence.wide n Tryz.prog 143 #[.pointer (some ⟨Bb, 0, none⟩), .pointer (some ⟨Bk, 0, none⟩)] (fun x : Spot m => #[Value.int .i64 x.at_]) (KeptTwo Bk Bb)
     (fun ys => spots ys = probes s.data.toList b) (fun pre => spots pre <+: probes s.data.toList b) 6 w := fun l J Jx W hW hJ _ hY h0 => by
 have hk' : Boxed W Bk 9 (.string s) := (hW.block Bk hk.lt).trans hk
 have hb' : Boxed W Bb 3 (.int .i64 b) := (hW.block Bb hb.lt).trans hb
 by_cases h : 1 ≤ b ∧ b ≤ 100000
 · obtain ⟨k, rfl⟩ := Int.eq_ofNat_of_zero_le (show 0 ≤ b by omega)
   rw [Int.toNat_natCast] at hm
   subst hm
   rw [probes_yes (by omega) (by omega)]
   exact places_in n l Bk Bb s k (by omega) (by omega) hs J Jx hY W hk' hb' h0
 · rw [probes_no (l := s.data.toList) (bits := b) (by omega)]
   refine (places_no n l Bk Bb s b (by omega) W hb').mono (fun e W' h => ?_)
   obtain ⟨h1, rfl⟩ := h
   exact ⟨h1, .inl ⟨[], rfl, h0⟩⟩

theorem round_calls {l n : Nat} {P : Program} {f : FuncId} {args : Array Value} {w : World} {R : Ending → World → Prop} (h : Calls P f args w R) : CallsIn (Fence.wide.inRound l) n P f args w R := (callsIn_wide.2 h : CallsIn Fence.wide n P f args w R)
end Go.Proofs.YtkomnnijnggbpaaGreatDoor
/- A text of zeros, made. -/
namespace Go.Proofs.YtkomnnijnggbpaaGreatDoor
open Go.RowKit
set_option linter.unusedVariables false

def zerosObj (n : Nat) : Obj := .cells (Array.replicate n (.int .u8 0)) 5
theorem zeros_cell (n : Nat) (w : World) (j : Nat) (hj : j < n) : (w.alloc (zerosObj n)).cell? ⟨w.heap.size, j, none⟩ = some (.int .u8 0) := by
 unfold zerosObj
 rw [fresh_cell]
 simp [hj]
theorem madeCells_zero (n : Nat) : madeCells #[Value.int .u8 0] n = Array.replicate n (.int .u8 0) := by
 apply Array.ext
 · simp [madeCells]
 · intro j h1 h2
   simp [madeCells, Nat.mod_one]
theorem zeros_made (n : Nat) (w : World) (hn : n ≤ 10000) : (Instr.makeSlice 22 (.int .i64 n) (.int .i64 n)).run Tryz.prog w = .ok (.slice (some ⟨w.heap.size, 0, none⟩) n n) (w.alloc (zerosObj n)) := by
 obtain ⟨ti, hti, hz0, hz1, hz2⟩ := info_parts infoB
 have h := run_makeSlice (P := Tryz.prog) w 22 5 ti (.int .u8 0) Tryz.underlying22 hti hz0 .i64 .i64 n n (by omega) (by omega) (by rw [hz1]; simp; omega) (by rw [hz2]; omega) (by omega)
 rw [hz1, Int.toNat_natCast, Nat.mul_one] at h
 have e : (Value.int IntKind.u8 0).cells = #[Value.int .u8 0] := rfl
 rw [e, madeCells_zero] at h
 exact h
theorem zeros_text (n : Nat) (w : World) : (convert 22 9 (.slice (some ⟨w.heap.size, 0, none⟩) n n)).run Tryz.prog (w.alloc (zerosObj n)) = .ok (.string ⟨(List.replicate n 0).toArray⟩) (w.alloc (zerosObj n)) :=
 str_of_cells (List.replicate n 0) (by simp) (fun j hj => by
   rw [List.length_replicate] at hj
   rw [zeros_cell n w j hj]
   unfold u8v
   simp [List.getD_eq_getElem?_getD, hj])
end Go.Proofs.YtkomnnijnggbpaaGreatDoor
/- A drawn region inside a fence, in a round too: what only reads, where a condition on the worlds holds, is taken first. -/
namespace Go.Proofs.YtkomnnijnggbpaaGreatDoor
open Go
set_option linter.unusedVariables false
section
variable {F : Fence} {n : Nat} {P : Program} {md : Region.Mode} {ops : Array Oper} {Q : Exit → Act → World → Prop} {S : World → Prop}

def noDefer (ops : Array Oper) : Bool := ops.all fun o => match o.op with | .defer _ => false | _ => true
theorem noDefer_spec (h : noDefer ops = true) : ∀ (j : Nat) (o : Oper) c, ops[j]? = some o → o.op ≠ .defer c := by
 intro j o c hj e
 have hm := Array.mem_of_getElem? hj
 have := Array.all_eq_true_iff_forall_mem.1 h o hm
 simp [e] at this
def YieldsS (P : Program) (ops : Array Oper) (S : World → Prop) (o : Oper) (v : Value) (a : Act) : Prop :=
 ((Region.wanted o (yielded ops a.tmps) = true ∧ ∀ w, S w → (execOp a.eval o).run P w = .ok (.value v) w) ∨ (Region.wanted o (yielded ops a.tmps) = false ∧ v = undef)) ∧ ∀ w, o.about P w a.eval = none
theorem YieldsS.of_same {o : Oper} {v : Value} {a a' : Act} (hy : YieldsS P ops S o v a) (he : execOp a'.eval o = execOp a.eval o)
   (hw : Region.wanted o (yielded ops a'.tmps) = Region.wanted o (yielded ops a.tmps)) (hb : ∀ w, o.about P w a'.eval = o.about P w a.eval) : YieldsS P ops S o v a' := by
 refine ⟨?_, fun w => by rw [hb w]; exact hy.2 w⟩
 rw [hw, he]
 exact hy.1
theorem YieldsS.upon {i : Nat} {o : Oper} {v : Value} {a : Act} (hnd : ∀ (j : Nat) (o : Oper) c, ops[j]? = some o → o.op ≠ .defer c) (hi : ops[i]? = some o) (hy : YieldsS P ops S o v a)
   {K : Act → World → Prop} {w : World} (hS : S w) (h : K (a.put o.dst v) w) : wpOpIn F n P ops Q i K a w := by
 unfold Go.wpOpIn
 simp only [hi]
 have hab : ∀ f, o.about P w a.eval = some f → F.fn f := fun f hf => by rw [hy.2 w] at hf; cases hf
 rcases hy.1 with ⟨hw, hv⟩ | ⟨hw, rfl⟩
 · simp only [hw, if_true, Oper.wpIn, Oper.semAt_eq F.round a.eval o (fun c => hnd i o c hi), hv w hS, Oper.uponIn]; exact ⟨hab, h⟩
 · simp only [hw, Bool.false_eq_true, if_false]; exact ⟨hab, h⟩
theorem wpOpIn_putS {j : Nat} {oi oj : Oper} {v : Value} (hnd : ∀ (j : Nat) (o : Oper) c, ops[j]? = some o → o.op ≠ .defer c) (hj : ops[j]? = some oj) (hap : oi.apart ops oj = true)
   (hsi : ∀ cs b, oi.op ≠ .select cs b) (hsj : ∀ cs b, oj.op ≠ .select cs b)
   (hQ : ∀ c a w, Q (.panic c) (a.put oi.dst v) w → Q (.panic c) a w) {K : Act → World → Prop} {a : Act} {w : World}
   (hy : YieldsS P ops S oi v a) (h : wpOpIn F n P ops Q j K (a.put oi.dst v) w) :
   wpOpIn F n P ops Q j (fun a' w' => YieldsS P ops S oi v a' ∧ K (a'.put oi.dst v) w') a w := by
 obtain ⟨h1, h2, h3⟩ := Oper.apart_spec hap
 have keep : ∀ (a : Act), YieldsS P ops S oi v a → ∀ u, YieldsS P ops S oi v (a.put oj.dst u) := fun a hy u =>
   hy.of_same (execOp_put oi hsi a oj.dst u h3) (wanted_put oi a oj.dst u h3) (fun w => about_put oi w a oj.dst u h3)
 have keepD : ∀ d, YieldsS P ops S oi v { a with defers := d :: a.defers } := fun d => hy.of_same rfl rfl (fun _ => rfl)
 have hd := fun c => hnd j oj c hj
 unfold wpOpIn at *
 simp only [hj] at *
 rw [wanted_put oj a oi.dst v h1, about_put oj w a oi.dst v h1] at h
 split
 · rename_i hw
   simp only [hw, if_true] at h
   unfold Oper.wpIn at *
   rw [about_put oj w a oi.dst v h1] at h
   refine ⟨h.1, ?_⟩
   have h := h.2
   rw [Oper.semAt_eq F.round _ oj hd, execOp_put oj hsj a oi.dst v h1] at h
   rw [Oper.semAt_eq F.round _ oj hd]
   generalize (execOp a.eval oj).run P w = r at *
   cases r with
   | ok x w' =>
     cases x <;> simp only [Oper.uponIn] at h ⊢
     case value u => exact ⟨keep a hy u, by rw [← Act.put_comm a v u h2]; exact h⟩
     case skip => exact ⟨keep a hy _, by rw [← Act.put_comm a v undef h2]; exact h⟩
     case defer d =>
       refine ⟨keep _ (keepD d) _, ?_⟩
       rw [← Act.put_comm _ v undef h2, ← Act.put_defers]
       exact h
     case enter f args =>
       refine ⟨h.1, CallsIn.mono h.2 fun e w'' he => ?_⟩
       cases e with
       | returned u => exact ⟨keep a hy u, by rw [← Act.put_comm a v u h2]; exact he⟩
       | panicked c => exact hQ _ _ _ he
       | outgrown => exact he
     case row row args => exact ⟨h.1, RowsIn.mono h.2 fun u w'' he => ⟨keep a hy u, by rw [← Act.put_comm a v u h2]; exact he⟩⟩
     case round l f tmps assign body =>
       refine ⟨h.1, RoundIn.mono h.2 fun e w'' he => ?_⟩
       cases e with
       | returned u => exact ⟨keep a hy u, by rw [← Act.put_comm a v u h2]; exact he⟩
       | panicked c => exact hQ _ _ _ he
       | outgrown => exact he
   | halt x w' =>
     cases x <;> simp only [Oper.uponIn] at h ⊢
     case panic u => exact hQ _ _ _ h
 · rename_i hw
   simp only [hw] at h
   exact ⟨h.1, keep a hy _, by rw [← Act.put_comm a v undef h2]; exact h.2⟩

def wpAnyInS (F : Fence) (n : Nat) (P : Program) (md : Region.Mode) (ops : Array Oper) (Q : Exit → Act → World → Prop) (S : World → Prop) (z : Option Nat) : Nat → Array Bool → Act → World → Prop
 | 0, listed, a, w => Region.ready md ops listed = [] ∧ Q .normal a w
 | fuel + 1, listed, a, w =>
   (Region.ready md ops listed = [] → Q .normal a w) ∧
   ∀ i ∈ Region.ready md ops listed, wpOpIn F n P ops Q i (fun a' w' => (some i ≠ z → S w') ∧ wpAnyInS F n P md ops Q S z fuel (listed.setIfInBounds i true) a' w') a w
variable {z : Option Nat}
theorem wpAnyInS_plain : ∀ (fuel : Nat) (listed : Array Bool) (a : Act) (w : World), wpAnyInS F n P md ops Q S z fuel listed a w → wpAnyIn F n P md ops Q fuel listed a w
 | 0, _, _, _, h => h
 | fuel + 1, listed, a, w, h => ⟨h.1, fun i hi => wpOpIn_mono (fun a' w' h' => wpAnyInS_plain fuel _ a' w' h'.2) (h.2 i hi)⟩
def lastWaits (md : Region.Mode) (ops : Array Oper) (z : Option Nat) (i : Nat) : Bool :=
 match z with
 | none => true
 | some j => match ops[j]? with
   | none => true
   | some o => o.after.any fun e => Region.binds md e && e.on == i
theorem lastWaits_spec {i j : Nat} {o : Oper} (h : lastWaits md ops (some j) i = true) (hj : ops[j]? = some o) : ∃ e ∈ o.after, Region.binds md e = true ∧ e.on = i := by
 unfold lastWaits at h
 simp only [hj] at h
 obtain ⟨k, hk, h⟩ := Array.any_eq_true.1 h
 rw [Bool.and_eq_true, beq_iff_eq] at h
 exact ⟨_, Array.getElem_mem hk, h.1, h.2⟩
theorem wpAnyInS_first {i : Nat} {oi : Oper} {v : Value} (hnd : ∀ (j : Nat) (o : Oper) c, ops[j]? = some o → o.op ≠ .defer c) (hz : lastWaits md ops z i = true) (hi : ops[i]? = some oi) (hsel : ∀ (j : Nat) (o : Oper) cs b, ops[j]? = some o → o.op ≠ .select cs b)
   (hQ : ∀ c a w, Q (.panic c) (a.put oi.dst v) w → Q (.panic c) a w) :
   ∀ (fuel : Nat) (listed : Array Bool) (a : Act) (w : World),
     (∀ j oj, ops[j]? = some oj → j ≠ i → listed.getD j true = false → (∀ e ∈ oj.after, Region.binds md e = true → e.on ≠ i) → oi.apart ops oj = true) →
     i ∈ Region.ready md ops listed → YieldsS P ops S oi v a → S w →
     wpAnyInS F n P md ops Q S z fuel (listed.setIfInBounds i true) (a.put oi.dst v) w → wpAnyInS F n P md ops Q S z (fuel + 1) listed a w := by
 intro fuel
 induction fuel with
 | zero =>
   intro listed a w _ hr hy hS H
   refine ⟨fun h => (by rw [h] at hr; cases hr), fun j hj => ?_⟩
   by_cases hji : j = i
   · subst hji; exact hy.upon hnd hi hS ⟨fun _ => hS, H⟩
   · have := ready_mono hj hji
     rw [H.1] at this
     cases this
 | succ fuel ih =>
   intro listed a w hfree hr hy hS H
   refine ⟨fun h => (by rw [h] at hr; cases hr), fun j hj => ?_⟩
   by_cases hji : j = i
   · subst hji; exact hy.upon hnd hi hS ⟨fun _ => hS, H⟩
   · have h1 := H.2 j (ready_mono hj hji)
     obtain ⟨hjun, oj, hoj, hall⟩ := mem_ready.1 hj
     have hnot : ∀ e ∈ oj.after, Region.binds md e = true → e.on ≠ i := fun e he hb heq => by
       have h1 := hall e he hb
       have h0 := (mem_ready.1 hr).1
       rw [heq] at h1
       rcases Nat.lt_or_ge i listed.size with h' | h'
       · simp [h'] at h0 h1; rw [h0] at h1; cases h1
       · simp [Array.getElem?_eq_none h'] at h1
     have hjz : some j ≠ z := fun e => by
       subst e
       obtain ⟨e, he, hb, ho⟩ := lastWaits_spec hz hoj
       exact hnot e he hb ho
     have h2 := wpOpIn_putS hnd hoj (hfree j oj hoj hji hjun hnot) (fun cs b => hsel i oi cs b hi) (fun cs b => hsel j oj cs b hoj) hQ hy h1
     have hfree' : ∀ k ok, ops[k]? = some ok → k ≠ i → (listed.setIfInBounds j true).getD k true = false →
         (∀ e ∈ ok.after, Region.binds md e = true → e.on ≠ i) → oi.apart ops ok = true := fun k ok hk hki hun hno => by
       refine hfree k ok hk hki ?_ hno
       by_cases hjk : j = k
       · subst hjk; exact hjun
       · rw [getD_set_ne true hjk] at hun; exact hun
     refine wpOpIn_mono (fun a' w' h3 => ⟨fun _ => h3.2.1 hjz, ih (listed.setIfInBounds j true) a' w' hfree' (ready_mono hr (Ne.symm hji)) h3.1 (h3.2.1 hjz) ?_⟩) h2
     rw [Array.setIfInBounds_comm _ _ hji]
     exact h3.2.2

theorem takeI {i : Nat} {oi : Oper} {d : Option Nat} {v : Value} {fuel : Nat} {listed : Array Bool} {a : Act} {w : World} (hi : ops[i]? = some oi) (hd : oi.dst = d) (hs : Region.noSelect ops = true) (hnd : noDefer ops = true) (hz : lastWaits md ops z i = true)
   (hf : Region.free md ops listed i = true) (hr : (Region.ready md ops listed).contains i = true) (hQ : ∀ c a w, Q (.panic c) (a.put oi.dst v) w → Q (.panic c) a w) (hw : Region.wanted oi (yielded ops a.tmps) = true) (hb : ∀ w, oi.about P w a.eval = none)
   (hy : ∀ w, S w → (execOp a.eval oi).run P w = .ok (.value v) w) (hS : S w) (h : wpAnyInS F n P md ops Q S z fuel (listed.setIfInBounds i true) (a.put d v) w) : wpAnyInS F n P md ops Q S z (fuel + 1) listed a w := by
 subst hd
 exact wpAnyInS_first (noDefer_spec hnd) hz hi (Region.noSelect_spec hs) hQ fuel listed a w (Region.free_spec hi hf) (by simpa using hr) ⟨Or.inl ⟨hw, hy⟩, hb⟩ hS h
def AllReadyInS (F : Fence) (n : Nat) (P : Program) (md : Region.Mode) (ops : Array Oper) (Q : Exit → Act → World → Prop) (S : World → Prop) (z : Option Nat) (fuel : Nat) (listed : Array Bool) (a : Act) (w : World) (rs : List Nat) : Prop :=
 ∀ i ∈ rs, wpOpIn F n P ops Q i (fun a' w' => (some i ≠ z → S w') ∧ wpAnyInS F n P md ops Q S z fuel (listed.setIfInBounds i true) a' w') a w
theorem AllReadyInS.nil {fuel : Nat} {listed : Array Bool} {a : Act} {w : World} : AllReadyInS F n P md ops Q S z fuel listed a w [] := fun _ h => by cases h
theorem AllReadyInS.cons {fuel : Nat} {listed : Array Bool} {a : Act} {w : World} {i : Nat} {o : Oper} {rs : List Nat} (ho : ops[i]? = some o)
   (h : ∀ K' : Act → World → Prop, Shut (∀ a w, (some i ≠ z → S w) → wpAnyInS F n P md ops Q S z fuel (listed.setIfInBounds i true) a w → K' a w) → if Region.wanted o (yielded ops a.tmps) = true then Oper.wpIn F n P o a w K' Q else (∀ f, o.about P w a.eval = some f → F.fn f) ∧ K' (a.put o.dst undef) w)
   (hs : AllReadyInS F n P md ops Q S z fuel listed a w rs) : AllReadyInS F n P md ops Q S z fuel listed a w (i :: rs) := fun j hj => by
 rcases List.mem_cons.1 hj with rfl | hj
 · exact wpOpIn_step ho (fun K' hK => h K' (fun a w hS hW => hK a w ⟨hS, hW⟩))
 · exact hs j hj
theorem readyI {rs : List Nat} {fuel : Nat} {listed : Array Bool} {a : Act} {w : World} (hr : Region.ready md ops listed = rs) (hne : rs ≠ [])
   (h : AllReadyInS F n P md ops Q S z fuel listed a w rs) : wpAnyInS F n P md ops Q S z (fuel + 1) listed a w :=
 ⟨fun h0 => absurd (hr ▸ h0) hne, hr ▸ h⟩
theorem doneI {listed : Array Bool} {a : Act} {w : World} (hr : Region.ready md ops listed = []) (h : Q .normal a w) : ∀ fuel, wpAnyInS F n P md ops Q S z fuel listed a w
 | 0 => ⟨hr, h⟩
 | _ + 1 => ⟨fun _ => h, by rw [hr]; simp⟩
theorem regionI {id : Nat} {a : Act} {w : World} (S : World → Prop) (z : Option Nat) (hm : P.follows .mixedOrders = true) (h : wpAnyInS F n P .any ops Q S z ops.size (Array.replicate ops.size false) a w.drew) : (Code.region id ops true).wpIn F n P Q a w :=
 wpIn_region_any hm (wpAnyInS_plain _ _ _ _ h)
end
end Go.Proofs.YtkomnnijnggbpaaGreatDoor
