/- Contract of the model's GetVar. -/
import Derived.Test.YtkhpgomgaimhkaaGetVar
import Derived.Test.YtkhpgomgaimhkaaPutVar
import Derived.Deep.RegionHeld3
namespace Go.Proofs.Ytkhpgomgaimhkaa
open Go.RowKit
set_option linter.unusedVariables false

theorem or_group2 (v k c : Nat) (hk : k < 9) (hv : v < 2 ^ (7 * k)) : bits .or .i64 (v : Int) (wrap64 (bits .and .i64 (c : Int) 127 * 2 ^ (7 * k))) = ((v + 2 ^ (7 * k) * (c % 128) : Nat) : Int) := by
  rw [i64_and127]; exact or_group v k c hk hv

theorem part_is (s : ByteArray) (a k : Nat) : (s.extract a (a + k + 1)).data.toList = (s.data.toList.drop a).take (k + 1) := by
  simp only [ByteArray.data_extract, Array.toList_extract, List.extract_eq_take_drop]
  congr 1
  omega

theorem getVar_is {l : List UInt8} {a i : Nat} {c : UInt8} (ha : a ≤ l.length) (h : More (l.drop a) i) (hk : i < 9) (hc : (l.drop a)[i]? = some c) (h1 : c.toNat < 128) :
    getVarAt l a = if putVar (varVal ((l.drop a).take (i + 1))) = (l.drop a).take (i + 1) then some ((l.drop a).take (i + 1)) else none := by
  unfold getVarAt
  rw [if_pos (by omega), Int.toNat_natCast, varTake_found h hk hc h1]
  by_cases hp : putVar (varVal ((l.drop a).take (i + 1))) = (l.drop a).take (i + 1) <;> simp [Option.filter, hp]

set_option maxHeartbeats 1000000 in
set_option maxRecDepth 100000 in
theorem specGetVar_in (s : ByteArray) (a : Nat) (w : World) (hs : s.size ≤ maxLen) (ha : a ≤ s.size) :
    Calls Try.prog 20 #[.string s, .int .i64 a] w (VarOut w s.data.toList a) := by
  have hll : s.data.toList.length = s.size := by simp
  have HLL := Lib.hid hll
  unfold maxLen at hs
  clear hll
  go_enter Try.func20, Try.ntmps20
  go_wp2_with fail
  go_loopw [6, 7] (fun n i wr => wr = w ∧ ∃ k : Nat, k ≤ 9 ∧ a + k ≤ s.size ∧ i = .int .i64 k ∧ n = .int .i64 (varVal ((s.data.toList.drop a).take k) : Nat) ∧ Hid (More (s.data.toList.drop a) k)) (fun _ i _ => 9 - (intOf i).toNat)
  case atStart => exact ⟨rfl, 0, by omega, by omega, rfl, rfl, ⟨Nat.zero_le _, fun c hc => by simp at hc⟩⟩
  case round =>
    obtain ⟨rfl, k, hk, hak, rfl, rfl, HX⟩ := hrel
    by_cases h9 : k < 9
    · by_cases hlt : a + k < s.size
      · have hv := varVal_take_lt (s.data.toList.drop a) k
        have HV := Lib.hid (varVal_take s a k hlt)
        have HO := Lib.hid (or_group2 _ k s[a + k].toNat h9 hv)
        have HC := Lib.hid (drop_at s a k hlt)
        have hb1 := varVal_take_lt63 (s.data.toList.drop a) (k + 1) (by omega)
        have hc := s[a + k].toNat_lt
        have i1 : (a : Int) + (k : Int) < (s.size : Int) := by omega
        have i2 : ((a : Int) + (k : Int)).toNat = a + k := by omega
        have i3 : (a : Int) < (s.size : Int) - (k : Int) := by omega
        clear hv
        rw [← HV.out] at HO
        have ho := HO.out
        obtain ⟨V, eV⟩ : ∃ V : Int, ((varVal ((s.data.toList.drop a).take k) : Nat) : Int) = V := ⟨_, rfl⟩
        rw [eV] at ho ⊢
        obtain ⟨V1, eV1⟩ : ∃ V1 : Int, ((varVal ((s.data.toList.drop a).take (k + 1)) : Nat) : Int) = V1 := ⟨_, rfl⟩
        rw [eV1] at ho hb1
        have EV1 := Lib.hid eV1
        have HB1 := Lib.hid hb1
        clear eV eV1 hb1 HV HO
        by_cases hmore : 128 ≤ s[a + k].toNat
        · have HO := Lib.hid ho
          clear ho
          go_wp2_with fail
          go_roundw
          case rel => exact ⟨trivial, k + 1, by omega, by omega, by go_num, congrArg (Value.int IntKind.i64) (by rw [HO.out, EV1.out]), HX.out.succ HC.out hmore⟩
          case measure => simp [intOf]; omega
        · go_wp2_with fail
          have s0 : (0 : Int) ≤ (a : Int) := by omega
          have s1 : IntKind.i64.wrap ((a : Int) + (k : Int)) = (a : Int) + (k : Int) := IntWalk.i64_in _ (by omega)
          have s2 : IntKind.i64.wrap ((a : Int) + (k : Int) + 1) = (a : Int) + (k : Int) + 1 := IntWalk.i64_in _ (by omega)
          have s3 : (a : Int) ≤ (a : Int) + (k : Int) + 1 := by omega
          have s4 : (a : Int) + (k : Int) + 1 ≤ (s.size : Int) := by omega
          have s5 : ((a : Int) + (k : Int) + 1).toNat = a + k + 1 := by omega
          go_region_held3 (fun w' => True) (exact trivial) (first | (go_at_call 21; refine (specPutVar _ _).mono ?_; rintro e w1 ⟨rfl, hb1⟩))
          have HB := Lib.hid (((Below.refl wr.heap.size wr).drew).trans (hb1.mono (Nat.le_refl _)))
          clear hb1 s1 s2 s3 s4 s5
          have HI := Lib.hid (getVar_is (by rw [HLL.out]; exact ha) HX.out h9 HC.out (by omega))
          have hpl := part_is s a k
          have HPL := Lib.hid hpl
          clear hpl
          go_wp2
          · have hw : ¬ putVar V1 = (s.data.toList.drop a).take (k + 1) := by
              have ht : (!putVar V1 == (s.extract a (a + k + 1)).toList) = true := by assumption
              rw [ByteArray.toList_eq, HPL.out] at ht
              simpa using ht
            go_ret2
            have hg : getVarAt s.data.toList a = none := by rw [HI.out, if_neg]; rw [EV1.out]; exact hw
            exact ⟨ret_ints (getVar1_none hg).1.symm (getVar1_none hg).2.symm, HB.out⟩
          · have hw : putVar V1 = (s.data.toList.drop a).take (k + 1) := by
              have ht : (!putVar V1 == (s.extract a (a + k + 1)).toList) = false := by assumption
              rw [ByteArray.toList_eq, HPL.out] at ht
              simpa using ht
            go_ret2
            have hg : getVarAt s.data.toList a = some ((s.data.toList.drop a).take (k + 1)) := by rw [HI.out, if_pos]; rw [EV1.out]; exact hw
            have hl1 : ((s.data.toList.drop a).take (k + 1)).length = k + 1 := by rw [List.length_take, List.length_drop, HLL.out]; omega
            exact ⟨ret_ints (a := V1) (c := (a : Int) + (k : Int) + 1) ((getVar1_some hg).1.trans EV1.out).symm (by rw [(getVar1_some hg).2, hl1]; omega), HB.out⟩
      · have HB := Lib.hid (getVar_none (by rw [HLL.out]; exact ha) HX.out hk (Or.inl (by rw [List.length_drop, HLL.out]; omega)))
        have i3 : ¬ (a : Int) < (s.size : Int) - (k : Int) := by omega
        go_wp2
        go_ret2
        exact ⟨ret_ints (getVar1_none HB.out).1.symm (getVar1_none HB.out).2.symm, Below.refl _ _⟩
    · have HB := Lib.hid (getVar_none (by rw [HLL.out]; exact ha) HX.out hk (Or.inr (by omega)))
      go_wp2
      go_ret2
      exact ⟨ret_ints (getVar1_none HB.out).1.symm (getVar1_none HB.out).2.symm, Below.refl _ _⟩

set_option maxHeartbeats 400000 in
theorem specGetVar_out (s : ByteArray) (a : Int) (w : World) (hs : s.size ≤ maxLen) (ha : a < 0 ∨ s.size < a) :
    Calls Try.prog 20 #[.string s, .int .i64 a] w (VarOut w s.data.toList a) := by
  have HB := Lib.hid (getVar1_none (getVar_out (l := s.data.toList) (a := a) (by simpa using ha)))
  unfold maxLen at hs
  by_cases h0 : a < 0
  · clear ha
    go_enter Try.func20, Try.ntmps20
    go_wp2_with fail
    go_loop [6, 7] (fun n i => n = .int .i64 0 ∧ i = .int .i64 0) (fun _ _ => 0)
    case atStart => exact ⟨rfl, rfl⟩
    case round =>
      obtain ⟨rfl, rfl⟩ := hrel
      go_wp2
      go_ret2
      exact ⟨ret_ints HB.out.1.symm HB.out.2.symm, Below.refl _ _⟩
  · have h1 : (s.size : Int) < a := by omega
    clear ha
    go_enter Try.func20, Try.ntmps20
    go_wp2_with fail
    go_loop [6, 7] (fun n i => n = .int .i64 0 ∧ i = .int .i64 0) (fun _ _ => 0)
    case atStart => exact ⟨rfl, rfl⟩
    case round =>
      obtain ⟨rfl, rfl⟩ := hrel
      go_wp2
      go_ret2
      exact ⟨ret_ints HB.out.1.symm HB.out.2.symm, Below.refl _ _⟩

theorem specGetVar (s : ByteArray) (a : Int) (w : World) (hs : s.size ≤ maxLen) :
    Calls Try.prog 20 #[.string s, .int .i64 a] w (VarOut w s.data.toList a) := by
  by_cases ho : a < 0 ∨ s.size < a
  · exact specGetVar_out s a w hs ho
  · obtain ⟨a, rfl⟩ := Int.eq_ofNat_of_zero_le (by omega : 0 ≤ a)
    exact specGetVar_in s a w hs (by omega)
end Go.Proofs.Ytkhpgomgaimhkaa
