/- Contracts of the program's GetVar. -/
import Derived.Test.YtkhpgomgaimhkaaReader
import Derived.Test.YtkhpgomgaimhkaaFixPure
import Derived.Test.YtkhpgomgaimhkaaBits
namespace Go.Proofs.Ytkhpgomgaimhkaa
open Go.RowKit
set_option linter.unusedVariables false

theorem one_part (s : ByteArray) (k : Nat) (h : k < s.size) : s.extract k (k + 1) = ⟨#[s[k]]⟩ := by
  apply bytes_ext
  simp only [ByteArray.data_extract, Array.toList_extract, List.extract_eq_take_drop]
  have e : k + 1 - k = 1 := by omega
  rw [e, List.drop_eq_getElem_cons (by simpa using h)]
  rfl
theorem drop_at (s : ByteArray) (a k : Nat) (h : a + k < s.size) : (s.data.toList.drop a)[k]? = some s[a + k] := by
  rw [List.getElem?_drop, byte_at s (a + k) h]

/-- What was read of a number. -/
def VarRead (w : World) (p : Nat) (s : ByteArray) (a : Int) (e : Ending) (w' : World) : Prop :=
  w.grownBy w' (some p) ∧ ((∃ g, getVarAt s.data.toList a = some g ∧ e = .returned (.tuple #[.int .i64 (varVal g : Nat), .bool true]) ∧ RdAt w' p s (a + (g.length : Int))) ∨ (getVarAt s.data.toList a = none ∧ e = .returned (.tuple #[.int .i64 0, .bool false])))

/-- A group taken in above those that are there. -/
theorem or_group (v k c : Nat) (hk : k < 9) (hv : v < 2 ^ (7 * k)) : bits .or .i64 (v : Int) (wrap64 (((c : Int) % 128) * 2 ^ (7 * k))) = ((v + 2 ^ (7 * k) * (c % 128) : Nat) : Int) := by
  have hp : 2 ^ (7 * k) ≤ 2 ^ 56 := Nat.pow_le_pow_right (by omega) (by omega)
  have hm : 2 ^ (7 * k) * (c % 128) ≤ 2 ^ 56 * 127 := Nat.mul_le_mul hp (by omega)
  have e : (((c : Int) % 128) * 2 ^ (7 * k)) = ((2 ^ (7 * k) * (c % 128) : Nat) : Int) := by rw [Int.natCast_mul, Int.mul_comm]; simp
  have e2 : wrap64 ((2 ^ (7 * k) * (c % 128) : Nat) : Int) = ((2 ^ (7 * k) * (c % 128) : Nat) : Int) := by unfold wrap64; omega
  rw [e, e2, i64_or_nat _ _ (by omega) (by omega), Nat.or_comm, ← Nat.two_pow_add_eq_or_of_lt hv, Nat.add_comm]

theorem varVal_take (s : ByteArray) (a k : Nat) (h : a + k < s.size) : varVal ((s.data.toList.drop a).take (k + 1)) = varVal ((s.data.toList.drop a).take k) + 2 ^ (7 * k) * (s[a + k].toNat % 128) := by
  have hk : k < (s.data.toList.drop a).length := by simp; omega
  rw [List.take_succ_eq_append_getElem hk, varVal_snoc, List.length_take]
  have e : (s.data.toList.drop a)[k] = s[a + k] := by rw [List.getElem_drop]; rfl
  have e2 : min k (s.data.toList.drop a).length = k := by omega
  rw [e, e2]
theorem varVal_take_lt (l : List UInt8) (k : Nat) : varVal (l.take k) < 2 ^ (7 * k) := by
  refine Nat.lt_of_lt_of_le (varVal_lt _) ?_
  exact Nat.pow_le_pow_right (by omega) (by have := List.length_take_le k l; omega)
theorem varVal_take_lt63 (l : List UInt8) (k : Nat) (h : k ≤ 9) : (varVal (l.take k) : Int) ≤ 9223372036854775807 := by
  have h1 := varVal_take_lt l k
  have h2 : 2 ^ (7 * k) ≤ 2 ^ 63 := Nat.pow_le_pow_right (by omega) (by omega)
  omega

set_option maxHeartbeats 400000 in
theorem takeVar_out (p : Nat) (s : ByteArray) (a : Int) (w : World) (h : RdAt w p s a) (hs : s.size ≤ maxLen) (ha : a < 0 ∨ s.size < a) :
    Calls Try.prog 51 #[.pointer (some ⟨p, 0, none⟩)] w (VarRead w p s a) := by
  have HH := Lib.hid h
  have HA := Lib.hid ha
  have HR := Lib.hid (getVar_out (l := s.data.toList) (a := a) (by simpa using ha))
  clear h ha
  go_enter Try.func51, Try.ntmps51
  go_wp2_with fail
  go_loopw [4, 8] (fun n i wr => n = .int .i64 0 ∧ i = .int .i64 0 ∧ wr = w) (fun _ _ _ => 0)
  case atStart => exact ⟨rfl, rfl, rfl⟩
  case round =>
    obtain ⟨rfl, rfl, rfl⟩ := hrel
    go_wp2_with fail
    refine (take_no p s a 1 _ HH.out hs (by have := HA.out; omega)).mono ?_
    rintro e w1 ⟨rfl, m, rfl⟩
    go_wp2
    go_ret2
    exact ⟨grown_drewN _ _ _, Or.inr ⟨HR.out, rfl⟩⟩

theorem or_noughts : bits .or .i64 0 (wrap64 0) = 0 := by
  have e : wrap64 0 = 0 := by unfold wrap64; omega
  have := i64_or_nat 0 0 (by omega) (by omega)
  rw [e]; simpa using this
theorem head_at (s : ByteArray) (k : Nat) (h : k < s.size) : (s.extract k (k + 1)).size = 1 ∧ ∀ h0 : 0 < (s.extract k (k + 1)).size, (s.extract k (k + 1))[0] = s[k] := by
  have e := one_part s k h
  rw [e]
  exact ⟨rfl, fun _ => rfl⟩

set_option maxHeartbeats 1000000 in
set_option maxRecDepth 100000 in
theorem takeVar_in (p : Nat) (s : ByteArray) (a : Nat) (w : World) (h : RdAt w p s a) (hs : s.size ≤ maxLen) (ha : a ≤ s.size) :
    Calls Try.prog 51 #[.pointer (some ⟨p, 0, none⟩)] w (VarRead w p s a) := by
  have HH := Lib.hid h
  have hll : s.data.toList.length = s.size := by simp
  have HLL := Lib.hid hll
  clear h hll
  go_enter Try.func51, Try.ntmps51
  go_wp2_with fail
  go_loopw [4, 8] (fun n i wr => ∃ k : Nat, k ≤ 9 ∧ a + k ≤ s.size ∧ i = .int .i64 k ∧ n = .int .i64 (varVal ((s.data.toList.drop a).take k) : Nat) ∧ Hid (More (s.data.toList.drop a) k ∧ RdAt wr p s ((a + k : Nat) : Int) ∧ w.grownBy wr (some p))) (fun _ i _ => 9 - (intOf i).toNat)
  case atStart => exact ⟨0, by omega, by omega, rfl, rfl, ⟨⟨Nat.zero_le _, fun c hc => by simp at hc⟩, HH.out, grown_refl _ _⟩⟩
  case round =>
    obtain ⟨k, hk, hak, rfl, rfl, HX⟩ := hrel
    by_cases h9 : k < 9
    · by_cases hlt : a + k < s.size
      · go_wp2_with fail
        refine (take_yes p s (a + k) 1 _ HX.out.2.1 hs (by omega)).mono ?_
        rintro e w1 ⟨rfl, hr, hg⟩
        have HX2 := Lib.hid (And.intro hr (HX.out.2.2.trans hg))
        clear hr hg
        have hv := varVal_take_lt (s.data.toList.drop a) k
        have HV := Lib.hid (varVal_take s a k hlt)
        have HO := Lib.hid (or_group _ k s[a + k].toNat h9 hv)
        have HC := Lib.hid (drop_at s a k hlt)
        have hb1 := varVal_take_lt63 (s.data.toList.drop a) (k + 1) (by omega)
        have hh := head_at s (a + k) hlt
        clear hv
        generalize s[a + k] = c at HV HO HC hh
        generalize s.extract (a + k) (a + k + 1) = q at hh ⊢
        have hq : 0 < q.size := by omega
        have hqc := hh.2 hq
        clear hh
        subst hqc
        have hc := q[0].toNat_lt
        rw [← HV.out] at HO
        by_cases h00 : k = 0 ∧ q[0].toNat = 0
        · obtain ⟨rfl, hz⟩ := h00
          have HY := Lib.hid (getVar_yes (by rw [HLL.out]; exact ha) HX.out.1 (by omega) HC.out (by omega) (by omega) (by rw [HV.out, hz]; simp [varVal]))
          have HV0 := Lib.hid (show varVal ((s.data.toList.drop a).take 1) = 0 by have := HV.out; rw [hz] at this; simpa [varVal] using this)
          have e0 : ((varVal ((s.data.toList.drop a).take 0) : Nat) : Int) = 0 := by simp [varVal]
          rw [e0]
          have z1 : ((q[0].toNat : Nat) : Int) = 0 := by omega
          have z2 : bits .or .i64 0 (wrap64 0) = 0 := or_noughts
          clear e0 hz hb1 HO HV
          go_wp2
          go_ret2
          refine ⟨HX2.out.2, Or.inl ⟨_, HY.out.1, ?_, ?_⟩⟩
          · rw [HV0.out]; rfl
          · have hl1 : ((s.data.toList.drop a).take (0 + 1)).length = 1 := by rw [List.length_take, List.length_drop, HLL.out]; omega
            rw [hl1]; exact HX2.out.1
        · have ho := HO.out
          obtain ⟨V, eV⟩ : ∃ V : Int, ((varVal ((s.data.toList.drop a).take k) : Nat) : Int) = V := ⟨_, rfl⟩
          rw [eV] at ho ⊢
          obtain ⟨V1, eV1⟩ : ∃ V1 : Int, ((varVal ((s.data.toList.drop a).take (k + 1)) : Nat) : Int) = V1 := ⟨_, rfl⟩
          rw [eV1] at ho hb1
          have EV1 := Lib.hid eV1
          have HB1 := Lib.hid hb1
          have H00 := Lib.hid h00
          clear eV eV1 hb1 HV HO h00
          by_cases hmore : 128 ≤ q[0].toNat
          · have HO := Lib.hid ho
            clear ho
            go_wp2_with fail
            go_roundw
            case rel => exact ⟨k + 1, by omega, by omega, by go_num, congrArg (Value.int IntKind.i64) (by rw [HO.out, EV1.out]), ⟨HX.out.1.succ HC.out hmore, HX2.out.1, HX2.out.2⟩⟩
            case measure => simp [intOf]; omega
          · by_cases hz : q[0].toNat = 0
            · have hk0 : 0 < k := by have := H00.out; omega
              have hk1 : (0 : Int) < (k : Int) := by omega
              have HB := Lib.hid (getVar_bad (by rw [HLL.out]; exact ha) HX.out.1 h9 HC.out (by omega) (Or.inl ⟨hz, hk0⟩))
              have z1 : (((q[0].toNat : Nat) : Int) == 0) = true := by simp; omega
              have HO := Lib.hid ho
              clear hz ho
              go_wp2
              go_ret2
              exact ⟨HX2.out.2, Or.inr ⟨HB.out, rfl⟩⟩
            · have z1 : (((q[0].toNat : Nat) : Int) == 0) = false := by simp; omega
              by_cases hmax : 4611686018427387903 < V1
              · have HB := Lib.hid (getVar_bad (by rw [HLL.out]; exact ha) HX.out.1 h9 HC.out (by omega) (Or.inr (by have := EV1.out; omega)))
                have HZ := Lib.hid hz
                clear hz
                go_wp2
                go_ret2
                exact ⟨HX2.out.2, Or.inr ⟨HB.out, rfl⟩⟩
              · have HY := Lib.hid (getVar_yes (by rw [HLL.out]; exact ha) HX.out.1 h9 HC.out (by omega) (by omega) (by have := EV1.out; omega))
                have HZ := Lib.hid hz
                clear hz
                go_wp2
                go_ret2
                refine ⟨HX2.out.2, Or.inl ⟨_, HY.out.1, ?_, ?_⟩⟩
                · rw [EV1.out]; rfl
                · have hl1 : ((s.data.toList.drop a).take (k + 1)).length = k + 1 := by rw [List.length_take, List.length_drop, HLL.out]; omega
                  rw [hl1]; exact HX2.out.1
      · have HB := Lib.hid (getVar_none (by rw [HLL.out]; exact ha) HX.out.1 hk (Or.inl (by rw [List.length_drop, HLL.out]; omega)))
        go_wp2_with fail
        refine (take_no p s _ 1 _ HX.out.2.1 hs (by omega)).mono ?_
        rintro e w1 ⟨rfl, m, rfl⟩
        go_wp2
        go_ret2
        exact ⟨HX.out.2.2.trans (grown_drewN _ _ _), Or.inr ⟨HB.out, rfl⟩⟩
    · have HB := Lib.hid (getVar_none (by rw [HLL.out]; exact ha) HX.out.1 hk (Or.inr (by omega)))
      go_wp2
      go_ret2
      exact ⟨HX.out.2.2, Or.inr ⟨HB.out, rfl⟩⟩

/-- GetVar's two answers. -/
def VarOut (w : World) (l : List UInt8) (a : Int) (e : Ending) (w' : World) : Prop := e = .returned (.tuple #[.int .i64 (getVar1 l a), .int .i64 (getVar2 l a)]) ∧ Below w.heap.size w w'
theorem getVar1_some {l g : List UInt8} {a : Int} (h : getVarAt l a = some g) : getVar1 l a = varVal g ∧ getVar2 l a = a + g.length := by unfold getVar1 getVar2; rw [h]; exact ⟨rfl, rfl⟩
theorem getVar1_none {l : List UInt8} {a : Int} (h : getVarAt l a = none) : getVar1 l a = 0 ∧ getVar2 l a = -1 := by unfold getVar1 getVar2; rw [h]; exact ⟨rfl, rfl⟩
theorem ret_ints {a b c d : Int} (h1 : a = b) (h2 : c = d) : Ending.returned (.tuple #[.int .i64 a, .int .i64 c]) = .returned (.tuple #[.int .i64 b, .int .i64 d]) := by rw [h1, h2]

set_option maxHeartbeats 400000 in
theorem implGetVar (s : ByteArray) (a : Int) (w : World) (hs : s.size ≤ maxLen) :
    Calls Try.prog 19 #[.string s, .int .i64 a] w (VarOut w s.data.toList a) := by
  have HT : ∀ W p, RdAt W p s a → Calls Try.prog 51 #[.pointer (some ⟨p, 0, none⟩)] W (VarRead W p s a) := by
    intro W p h
    by_cases ho : a < 0 ∨ s.size < a
    · exact takeVar_out p s a W h hs ho
    · obtain ⟨a, rfl⟩ := Int.eq_ofNat_of_zero_le (by omega : 0 ≤ a)
      exact takeVar_in p s a W h hs (by omega)
  have HT := Lib.hid HT
  go_enter Try.func19, Try.ntmps19
  go_wp2_with fail
  refine (HT.out _ _ (rd_new w s a)).mono ?_
  rintro e w1 ⟨hg, ⟨g, hv, rfl, hr⟩ | ⟨hv, rfl⟩⟩
  · have HG := Lib.hid hg
    have HV := Lib.hid (getVar1_some hv)
    obtain ⟨c0, c1, f1⟩ := hr.cells
    clear hg hv hr c0
    go_wp2
    go_quiet (fail)
    go_wp2
    go_ret2
    exact ⟨ret_ints HV.out.1.symm HV.out.2.symm, (below_new (World.grownBy_alloc w _ none) HG.out).trans (below_draws _)⟩
  · have HG := Lib.hid hg
    have HV := Lib.hid (getVar1_none hv)
    clear hg hv
    go_wp2
    go_ret2
    exact ⟨ret_ints HV.out.1.symm HV.out.2.symm, below_new (World.grownBy_alloc w _ none) HG.out⟩
end Go.Proofs.Ytkhpgomgaimhkaa
