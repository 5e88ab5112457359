/- Contracts of the program's PutVar and of the model's. -/
import Derived.Test.YtgonnibakkabjaaOpsA
import Derived.Test.YtgonnibakkabjaaRowsA
import Derived.Test.YtgonnibakkabjaaPureA
import Derived.Laws.Bits128
import Derived.Test.YtgonnibakkabjaaFixA
import Derived.Deep.RegionHeld3
namespace Go.Proofs.Ytgonnibakkabjaa
open Go.RowKit
set_option linter.unusedVariables false

/-- A text that was made; nothing that lay there has turned. -/
def TextOut (w : World) (l : List UInt8) (e : Ending) (w' : World) : Prop := e = .returned (.string ⟨l.toArray⟩) ∧ Below w.heap.size w w'

/-- What is told of a number, and what is left of it. -/
def Left (n m : Nat) (l : List UInt8) : Prop := varB n = l ++ varB m ∧ m ≤ n
theorem Left.next {n m : Nat} {l : List UInt8} (h : Left n m l) (hm : 128 ≤ m) : Left n (m / 128) (l ++ [UInt8.ofNat (m % 128 + 128)]) := by
  refine ⟨?_, by have := h.2; omega⟩
  rw [h.1, var_step hm]; simp
theorem Left.last {n m : Nat} {l : List UInt8} (h : Left n m l) (hm : m < 128) : l ++ [UInt8.ofNat m] = varB n := by rw [h.1, var_small hm]
theorem Left.len {n m : Nat} {l : List UInt8} (h : Left n m l) (hn : (n : Int) ≤ 4611686018427387903) : l.length ≤ 9 := by
  have h9 := var_len_le 8 n (by omega)
  rw [h.1, List.length_append] at h9
  omega
theorem putVar_no {n : Int} (h : n < 0 ∨ 4611686018427387903 < n) : putVar n = [] := by unfold putVar; rw [if_neg (by omega)]

theorem group_moreI (m : Int) (h : 0 ≤ m) : m % 128 + 128 = ((UInt8.ofNat (m.toNat % 128 + 128)).toNat : Int) := by rw [UInt8.toNat_ofNat']; omega
theorem group_lastI (m : Int) (h0 : 0 ≤ m) (h : m < 128) : m = ((UInt8.ofNat m.toNat).toNat : Int) := by rw [UInt8.toNat_ofNat']; omega

set_option maxHeartbeats 400000 in
theorem implPutVar_in (n : Int) (w : World) (h0 : 0 ≤ n) (hn : n ≤ 4611686018427387903) :
    Calls Try.prog 74 #[.int .i64 n] w (TextOut w (varB n.toNat)) := by
  go_enter Try.func74, Try.ntmps74
  go_wp2
  go_loopw [0, 3] (fun i v wr => ∃ (m : Int) (l : List UInt8), 0 ≤ m ∧ m ≤ n ∧ Left n.toNat m.toNat l ∧ i = .int .i64 m ∧ BRow w wr v l) (fun i _ _ => (intOf i).toNat)
  case atStart => exact ⟨n, [], h0, Int.le_refl _, ⟨rfl, Nat.le_refl _⟩, rfl, brow_nil w⟩
  case round =>
    obtain ⟨m, l, hm0, hm1, hL, rfl, t⟩ := hrel
    have TT := Lib.hid t
    have HL := Lib.hid hL
    have hl := hL.len (by omega)
    clear t hL
    by_cases hlt : 128 ≤ m
    · go_wp2_with (at_builtin; (refine wp_pushB (UInt8.ofNat (m.toNat % 128 + 128)) (group_moreI m hm0) rfl _ _ rfl rfl rfl TT.out (by omega) ?_); intro g2 c2 w2 t2; have T2 := Lib.hid t2; clear t2)
      go_roundw
      case rel =>
        have e : (m / 128).toNat = m.toNat / 128 := by omega
        exact ⟨m / 128, _, by omega, by omega, by rw [e]; exact HL.out.next (by omega), rfl, T2.out⟩
      case measure => simp [intOf]; omega
    · go_wp2_with (at_builtin; (refine wp_pushB (UInt8.ofNat m.toNat) (group_lastI m hm0 (by omega)) rfl _ _ rfl rfl rfl TT.out (by omega) ?_); intro g2 c2 w2 t2; have T2 := Lib.hid t2; have hcv := t2.str (by simp); clear t2)
      go_ret
      exact ⟨ret_text (HL.out.last (by omega)), T2.out.below⟩

theorem implPutVar (n : Int) (w : World) :
    Calls Try.prog 74 #[.int .i64 n] w (TextOut w (putVar n)) := by
  by_cases h0 : n < 0
  · go_enter Try.func74, Try.ntmps74
    go_wp2
    go_ret
    exact ⟨ret_text (a := []) (putVar_no (Or.inl h0)).symm, Below.refl _ _⟩
  · by_cases h1 : 4611686018427387903 < n
    · go_enter Try.func74, Try.ntmps74
      go_wp2
      go_ret
      exact ⟨ret_text (a := []) (putVar_no (Or.inr h1)).symm, Below.refl _ _⟩
    · have e : putVar n = varB n.toNat := by unfold putVar; rw [if_pos (by omega)]
      rw [e]
      exact implPutVar_in n w (by omega) (by omega)

theorem or_more (m : Int) : bits .or .i64 (bits .and .i64 m 127) 128 = m % 128 + 128 := by
  rw [i64_and127]
  obtain ⟨k, hk⟩ := Int.eq_ofNat_of_zero_le (Int.emod_nonneg m (by omega : (128 : Int) ≠ 0))
  have hl : k < 2 ^ 7 := by omega
  have h2 : 128 + k = 128 ||| k := Nat.two_pow_add_eq_or_of_lt hl 1
  have := i64_or_nat k 128 (by omega) (by omega)
  rw [hk]
  have e : (128 : Int) = ((128 : Nat) : Int) := rfl
  rw [e, this, Nat.or_comm]
  omega

set_option maxHeartbeats 400000 in
theorem specPutVar_in (n : Int) (w : World) (h0 : 0 ≤ n) (hn : n ≤ 4611686018427387903) :
    Calls Try.prog 30 #[.int .i64 n] w (TextOut w (varB n.toNat)) := by
  go_enter Try.func30, Try.ntmps30
  go_wp2_with fail
  refine (specIn_yes _ _ _ _ h0 hn).mono ?_
  rintro e w1 ⟨rfl, rfl⟩
  go_wp2_with fail
  go_loopw [0, 3] (fun i v wr => ∃ (m : Int) (l : List UInt8), 0 ≤ m ∧ m ≤ n ∧ Left n.toNat m.toNat l ∧ i = .int .i64 m ∧ BRow w wr v l) (fun i _ _ => (intOf i).toNat)
  case atStart => exact ⟨n, [], h0, Int.le_refl _, ⟨rfl, Nat.le_refl _⟩, rfl, brow_made w⟩
  case round =>
    obtain ⟨m, l, hm0, hm1, hL, rfl, t⟩ := hrel
    have TT := Lib.hid t
    have HL := Lib.hid hL
    have hl := hL.len (by omega)
    clear t hL
    by_cases hlt : 128 ≤ m
    · go_wp2_with (at_builtin; (refine wp_pushB (UInt8.ofNat (m.toNat % 128 + 128)) (by rw [or_more]; first | exact group_moreI m hm0 | (have := group_moreI m hm0; omega)) rfl _ _ rfl rfl rfl TT.out (by omega) ?_); intro g2 c2 w2 t2; have T2 := Lib.hid t2; clear t2)
      go_roundw
      case rel =>
        have e : (m / 128).toNat = m.toNat / 128 := by omega
        exact ⟨m / 128, _, by omega, by omega, by rw [e]; exact HL.out.next (by omega), rfl, T2.out⟩
      case measure => simp [intOf]; omega
    · go_wp2_with (at_builtin; (refine wp_pushB (UInt8.ofNat m.toNat) (group_lastI m hm0 (by omega)) rfl _ _ rfl rfl rfl TT.out (by omega) ?_); intro g2 c2 w2 t2; have T2 := Lib.hid t2; have hcv := t2.str (by simp); clear t2)
      go_ret
      exact ⟨ret_text (HL.out.last (by omega)), T2.out.below⟩

theorem specPutVar (n : Int) (w : World) :
    Calls Try.prog 30 #[.int .i64 n] w (TextOut w (putVar n)) := by
  by_cases h : n < 0 ∨ 4611686018427387903 < n
  · have H := Lib.hid h
    clear h
    go_enter Try.func30, Try.ntmps30
    go_wp2_with fail
    refine (specIn_no _ _ _ _ H.out).mono ?_
    rintro e w1 ⟨rfl, rfl⟩
    go_wp2
    go_ret
    exact ⟨ret_text (a := []) (putVar_no H.out).symm, Below.refl _ _⟩
  · have e : putVar n = varB n.toNat := by unfold putVar; rw [if_pos (by omega)]
    rw [e]
    exact specPutVar_in n w (by omega) (by omega)
end Go.Proofs.Ytgonnibakkabjaa
/- Contracts of the program's takeVar. -/
namespace Go.Proofs.Ytgonnibakkabjaa
open Go.RowKit
set_option linter.unusedVariables false

theorem one_part (s : ByteArray) (k : Nat) (h : k < s.size) : s.extract k (k + 1) = ⟨#[s[k]]⟩ := by
  apply bytes_ext
  simp only [ByteArray.data_extract, Array.toList_extract, List.extract_eq_take_drop]
  have e : k + 1 - k = 1 := by omega
  rw [e, List.drop_eq_getElem_cons (by simpa using h)]
  rfl
theorem drop_at (s : ByteArray) (a k : Nat) (h : a + k < s.size) : (s.data.toList.drop a)[k]? = some s[a + k] := by
  rw [List.getElem?_drop, byte_at s (a + k) h]

/-- What was read of a number. -/
def VarRead (w : World) (p : Nat) (s : ByteArray) (a : Int) (e : Ending) (w' : World) : Prop :=
  w.grownBy w' (some p) ∧ ((∃ g, getVarAt s.data.toList a = some g ∧ e = .returned (.tuple #[.int .i64 (varVal g : Nat), .bool true]) ∧ RdAt w' p s (a + (g.length : Int))) ∨ (getVarAt s.data.toList a = none ∧ e = .returned (.tuple #[.int .i64 0, .bool false])))

/-- A group taken in above those that are there. -/
theorem or_group (v k c : Nat) (hk : k < 9) (hv : v < 2 ^ (7 * k)) : bits .or .i64 (v : Int) (wrap64 (((c : Int) % 128) * 2 ^ (7 * k))) = ((v + 2 ^ (7 * k) * (c % 128) : Nat) : Int) := by
  have hp : 2 ^ (7 * k) ≤ 2 ^ 56 := Nat.pow_le_pow_right (by omega) (by omega)
  have hm : 2 ^ (7 * k) * (c % 128) ≤ 2 ^ 56 * 127 := Nat.mul_le_mul hp (by omega)
  have e : (((c : Int) % 128) * 2 ^ (7 * k)) = ((2 ^ (7 * k) * (c % 128) : Nat) : Int) := by rw [Int.natCast_mul, Int.mul_comm]; simp
  have e2 : wrap64 ((2 ^ (7 * k) * (c % 128) : Nat) : Int) = ((2 ^ (7 * k) * (c % 128) : Nat) : Int) := by unfold wrap64; omega
  rw [e, e2, i64_or_nat _ _ (by omega) (by omega), Nat.or_comm, ← Nat.two_pow_add_eq_or_of_lt hv, Nat.add_comm]

theorem varVal_take (s : ByteArray) (a k : Nat) (h : a + k < s.size) : varVal ((s.data.toList.drop a).take (k + 1)) = varVal ((s.data.toList.drop a).take k) + 2 ^ (7 * k) * (s[a + k].toNat % 128) := by
  have hk : k < (s.data.toList.drop a).length := by simp; omega
  rw [List.take_succ_eq_append_getElem hk, varVal_snoc, List.length_take]
  have e : (s.data.toList.drop a)[k] = s[a + k] := by rw [List.getElem_drop]; rfl
  have e2 : min k (s.data.toList.drop a).length = k := by omega
  rw [e, e2]
theorem varVal_take_lt (l : List UInt8) (k : Nat) : varVal (l.take k) < 2 ^ (7 * k) := by
  refine Nat.lt_of_lt_of_le (varVal_lt _) ?_
  exact Nat.pow_le_pow_right (by omega) (by have := List.length_take_le k l; omega)
theorem varVal_take_lt63 (l : List UInt8) (k : Nat) (h : k ≤ 9) : (varVal (l.take k) : Int) ≤ 9223372036854775807 := by
  have h1 := varVal_take_lt l k
  have h2 : 2 ^ (7 * k) ≤ 2 ^ 63 := Nat.pow_le_pow_right (by omega) (by omega)
  omega

set_option maxHeartbeats 400000 in
theorem takeVar_out (p : Nat) (s : ByteArray) (a : Int) (w : World) (h : RdAt w p s a) (hs : s.size ≤ maxLen) (ha : a < 0 ∨ s.size < a) :
    Calls Try.prog 92 #[.pointer (some ⟨p, 0, none⟩)] w (VarRead w p s a) := by
  have HH := Lib.hid h
  have HA := Lib.hid ha
  have HR := Lib.hid (getVar_out (l := s.data.toList) (a := a) (by simpa using ha))
  clear h ha
  go_enter Try.func92, Try.ntmps92
  go_wp2_with fail
  go_loopw [4, 8] (fun n i wr => n = .int .i64 0 ∧ i = .int .i64 0 ∧ wr = w) (fun _ _ _ => 0)
  case atStart => exact ⟨rfl, rfl, rfl⟩
  case round =>
    obtain ⟨rfl, rfl, rfl⟩ := hrel
    go_wp2_with fail
    refine (take_no p s a 1 _ HH.out hs (by have := HA.out; omega)).mono ?_
    rintro e w1 ⟨rfl, m, rfl⟩
    go_wp2
    go_ret2
    exact ⟨grown_drewN _ _ _, Or.inr ⟨HR.out, rfl⟩⟩

theorem or_noughts : bits .or .i64 0 (wrap64 0) = 0 := by
  have e : wrap64 0 = 0 := by unfold wrap64; omega
  have := i64_or_nat 0 0 (by omega) (by omega)
  rw [e]; simpa using this
theorem head_at (s : ByteArray) (k : Nat) (h : k < s.size) : (s.extract k (k + 1)).size = 1 ∧ ∀ h0 : 0 < (s.extract k (k + 1)).size, (s.extract k (k + 1))[0] = s[k] := by
  have e := one_part s k h
  rw [e]
  exact ⟨rfl, fun _ => rfl⟩

set_option maxHeartbeats 1000000 in
set_option maxRecDepth 100000 in
theorem takeVar_in (p : Nat) (s : ByteArray) (a : Nat) (w : World) (h : RdAt w p s a) (hs : s.size ≤ maxLen) (ha : a ≤ s.size) :
    Calls Try.prog 92 #[.pointer (some ⟨p, 0, none⟩)] w (VarRead w p s a) := by
  have HH := Lib.hid h
  have hll : s.data.toList.length = s.size := by simp
  have HLL := Lib.hid hll
  clear h hll
  go_enter Try.func92, Try.ntmps92
  go_wp2_with fail
  go_loopw [4, 8] (fun n i wr => ∃ k : Nat, k ≤ 9 ∧ a + k ≤ s.size ∧ i = .int .i64 k ∧ n = .int .i64 (varVal ((s.data.toList.drop a).take k) : Nat) ∧ Hid (More (s.data.toList.drop a) k ∧ RdAt wr p s ((a + k : Nat) : Int) ∧ w.grownBy wr (some p))) (fun _ i _ => 9 - (intOf i).toNat)
  case atStart => exact ⟨0, by omega, by omega, rfl, rfl, ⟨⟨Nat.zero_le _, fun c hc => by simp at hc⟩, HH.out, grown_refl _ _⟩⟩
  case round =>
    obtain ⟨k, hk, hak, rfl, rfl, HX⟩ := hrel
    by_cases h9 : k < 9
    · by_cases hlt : a + k < s.size
      · go_wp2_with fail
        refine (take_yes p s (a + k) 1 _ HX.out.2.1 hs (by omega)).mono ?_
        rintro e w1 ⟨rfl, hr, hg⟩
        have HX2 := Lib.hid (And.intro hr (HX.out.2.2.trans hg))
        clear hr hg
        have hv := varVal_take_lt (s.data.toList.drop a) k
        have HV := Lib.hid (varVal_take s a k hlt)
        have HO := Lib.hid (or_group _ k s[a + k].toNat h9 hv)
        have HC := Lib.hid (drop_at s a k hlt)
        have hb1 := varVal_take_lt63 (s.data.toList.drop a) (k + 1) (by omega)
        have hh := head_at s (a + k) hlt
        clear hv
        generalize s[a + k] = c at HV HO HC hh
        generalize s.extract (a + k) (a + k + 1) = q at hh ⊢
        have hq : 0 < q.size := by omega
        have hqc := hh.2 hq
        clear hh
        subst hqc
        have hc := q[0].toNat_lt
        rw [← HV.out] at HO
        by_cases h00 : k = 0 ∧ q[0].toNat = 0
        · obtain ⟨rfl, hz⟩ := h00
          have HY := Lib.hid (getVar_yes (by rw [HLL.out]; exact ha) HX.out.1 (by omega) HC.out (by omega) (by omega) (by rw [HV.out, hz]; simp [varVal]))
          have HV0 := Lib.hid (show varVal ((s.data.toList.drop a).take 1) = 0 by have := HV.out; rw [hz] at this; simpa [varVal] using this)
          have e0 : ((varVal ((s.data.toList.drop a).take 0) : Nat) : Int) = 0 := by simp [varVal]
          rw [e0]
          have z1 : ((q[0].toNat : Nat) : Int) = 0 := by omega
          have z2 : bits .or .i64 0 (wrap64 0) = 0 := or_noughts
          clear e0 hz hb1 HO HV
          go_wp2
          go_ret2
          refine ⟨HX2.out.2, Or.inl ⟨_, HY.out.1, ?_, ?_⟩⟩
          · rw [HV0.out]; rfl
          · have hl1 : ((s.data.toList.drop a).take (0 + 1)).length = 1 := by rw [List.length_take, List.length_drop, HLL.out]; omega
            rw [hl1]; exact HX2.out.1
        · have ho := HO.out
          obtain ⟨V, eV⟩ : ∃ V : Int, ((varVal ((s.data.toList.drop a).take k) : Nat) : Int) = V := ⟨_, rfl⟩
          rw [eV] at ho ⊢
          obtain ⟨V1, eV1⟩ : ∃ V1 : Int, ((varVal ((s.data.toList.drop a).take (k + 1)) : Nat) : Int) = V1 := ⟨_, rfl⟩
          rw [eV1] at ho hb1
          have EV1 := Lib.hid eV1
          have HB1 := Lib.hid hb1
          have H00 := Lib.hid h00
          clear eV eV1 hb1 HV HO h00
          by_cases hmore : 128 ≤ q[0].toNat
          · have HO := Lib.hid ho
            clear ho
            go_wp2_with fail
            go_roundw
            case rel => exact ⟨k + 1, by omega, by omega, by go_num, congrArg (Value.int IntKind.i64) (by rw [HO.out, EV1.out]), ⟨HX.out.1.succ HC.out hmore, HX2.out.1, HX2.out.2⟩⟩
            case measure => simp [intOf]; omega
          · by_cases hz : q[0].toNat = 0
            · have hk0 : 0 < k := by have := H00.out; omega
              have hk1 : (0 : Int) < (k : Int) := by omega
              have HB := Lib.hid (getVar_bad (by rw [HLL.out]; exact ha) HX.out.1 h9 HC.out (by omega) (Or.inl ⟨hz, hk0⟩))
              have z1 : (((q[0].toNat : Nat) : Int) == 0) = true := by simp; omega
              have HO := Lib.hid ho
              clear hz ho
              go_wp2
              go_ret2
              exact ⟨HX2.out.2, Or.inr ⟨HB.out, rfl⟩⟩
            · have z1 : (((q[0].toNat : Nat) : Int) == 0) = false := by simp; omega
              by_cases hmax : 4611686018427387903 < V1
              · have HB := Lib.hid (getVar_bad (by rw [HLL.out]; exact ha) HX.out.1 h9 HC.out (by omega) (Or.inr (by have := EV1.out; omega)))
                have HZ := Lib.hid hz
                clear hz
                go_wp2
                go_ret2
                exact ⟨HX2.out.2, Or.inr ⟨HB.out, rfl⟩⟩
              · have HY := Lib.hid (getVar_yes (by rw [HLL.out]; exact ha) HX.out.1 h9 HC.out (by omega) (by omega) (by have := EV1.out; omega))
                have HZ := Lib.hid hz
                clear hz
                go_wp2
                go_ret2
                refine ⟨HX2.out.2, Or.inl ⟨_, HY.out.1, ?_, ?_⟩⟩
                · rw [EV1.out]; rfl
                · have hl1 : ((s.data.toList.drop a).take (k + 1)).length = k + 1 := by rw [List.length_take, List.length_drop, HLL.out]; omega
                  rw [hl1]; exact HX2.out.1
      · have HB := Lib.hid (getVar_none (by rw [HLL.out]; exact ha) HX.out.1 hk (Or.inl (by rw [List.length_drop, HLL.out]; omega)))
        go_wp2_with fail
        refine (take_no p s _ 1 _ HX.out.2.1 hs (by omega)).mono ?_
        rintro e w1 ⟨rfl, m, rfl⟩
        go_wp2
        go_ret2
        exact ⟨HX.out.2.2.trans (grown_drewN _ _ _), Or.inr ⟨HB.out, rfl⟩⟩
    · have HB := Lib.hid (getVar_none (by rw [HLL.out]; exact ha) HX.out.1 hk (Or.inr (by omega)))
      go_wp2
      go_ret2
      exact ⟨HX.out.2.2, Or.inr ⟨HB.out, rfl⟩⟩

/-- GetVar's two answers. -/
def VarOut (w : World) (l : List UInt8) (a : Int) (e : Ending) (w' : World) : Prop := e = .returned (.tuple #[.int .i64 (getVar1 l a), .int .i64 (getVar2 l a)]) ∧ Below w.heap.size w w'
theorem getVar1_some {l g : List UInt8} {a : Int} (h : getVarAt l a = some g) : getVar1 l a = varVal g ∧ getVar2 l a = a + g.length := by unfold getVar1 getVar2; rw [h]; exact ⟨rfl, rfl⟩
theorem getVar1_none {l : List UInt8} {a : Int} (h : getVarAt l a = none) : getVar1 l a = 0 ∧ getVar2 l a = -1 := by unfold getVar1 getVar2; rw [h]; exact ⟨rfl, rfl⟩
theorem ret_ints {a b c d : Int} (h1 : a = b) (h2 : c = d) : Ending.returned (.tuple #[.int .i64 a, .int .i64 c]) = .returned (.tuple #[.int .i64 b, .int .i64 d]) := by rw [h1, h2]
end Go.Proofs.Ytgonnibakkabjaa
/- Contract of the model's GetVar. -/
namespace Go.Proofs.Ytgonnibakkabjaa
open Go.RowKit
set_option linter.unusedVariables false

theorem or_group2 (v k c : Nat) (hk : k < 9) (hv : v < 2 ^ (7 * k)) : bits .or .i64 (v : Int) (wrap64 (bits .and .i64 (c : Int) 127 * 2 ^ (7 * k))) = ((v + 2 ^ (7 * k) * (c % 128) : Nat) : Int) := by
  rw [i64_and127]; exact or_group v k c hk hv

theorem part_is (s : ByteArray) (a k : Nat) : (s.extract a (a + k + 1)).data.toList = (s.data.toList.drop a).take (k + 1) := by
  simp only [ByteArray.data_extract, Array.toList_extract, List.extract_eq_take_drop]
  congr 1
  omega

theorem getVar_is {l : List UInt8} {a i : Nat} {c : UInt8} (ha : a ≤ l.length) (h : More (l.drop a) i) (hk : i < 9) (hc : (l.drop a)[i]? = some c) (h1 : c.toNat < 128) :
    getVarAt l a = if putVar (varVal ((l.drop a).take (i + 1))) = (l.drop a).take (i + 1) then some ((l.drop a).take (i + 1)) else none := by
  unfold getVarAt
  rw [if_pos (by omega), Int.toNat_natCast, varTake_found h hk hc h1]
  by_cases hp : putVar (varVal ((l.drop a).take (i + 1))) = (l.drop a).take (i + 1) <;> simp [Option.filter, hp]

set_option maxHeartbeats 1000000 in
set_option maxRecDepth 100000 in
theorem specGetVar_in (s : ByteArray) (a : Nat) (w : World) (hs : s.size ≤ maxLen) (ha : a ≤ s.size) :
    Calls Try.prog 82 #[.string s, .int .i64 a] w (VarOut w s.data.toList a) := by
  have hll : s.data.toList.length = s.size := by simp
  have HLL := Lib.hid hll
  unfold maxLen at hs
  clear hll
  go_enter Try.func82, Try.ntmps82
  go_wp2_with fail
  go_loopw [6, 7] (fun n i wr => wr = w ∧ ∃ k : Nat, k ≤ 9 ∧ a + k ≤ s.size ∧ i = .int .i64 k ∧ n = .int .i64 (varVal ((s.data.toList.drop a).take k) : Nat) ∧ Hid (More (s.data.toList.drop a) k)) (fun _ i _ => 9 - (intOf i).toNat)
  case atStart => exact ⟨rfl, 0, by omega, by omega, rfl, rfl, ⟨Nat.zero_le _, fun c hc => by simp at hc⟩⟩
  case round =>
    obtain ⟨rfl, k, hk, hak, rfl, rfl, HX⟩ := hrel
    by_cases h9 : k < 9
    · by_cases hlt : a + k < s.size
      · have hv := varVal_take_lt (s.data.toList.drop a) k
        have HV := Lib.hid (varVal_take s a k hlt)
        have HO := Lib.hid (or_group2 _ k s[a + k].toNat h9 hv)
        have HC := Lib.hid (drop_at s a k hlt)
        have hb1 := varVal_take_lt63 (s.data.toList.drop a) (k + 1) (by omega)
        have hc := s[a + k].toNat_lt
        have i1 : (a : Int) + (k : Int) < (s.size : Int) := by omega
        have i2 : ((a : Int) + (k : Int)).toNat = a + k := by omega
        have i3 : (a : Int) < (s.size : Int) - (k : Int) := by omega
        clear hv
        rw [← HV.out] at HO
        have ho := HO.out
        obtain ⟨V, eV⟩ : ∃ V : Int, ((varVal ((s.data.toList.drop a).take k) : Nat) : Int) = V := ⟨_, rfl⟩
        rw [eV] at ho ⊢
        obtain ⟨V1, eV1⟩ : ∃ V1 : Int, ((varVal ((s.data.toList.drop a).take (k + 1)) : Nat) : Int) = V1 := ⟨_, rfl⟩
        rw [eV1] at ho hb1
        have EV1 := Lib.hid eV1
        have HB1 := Lib.hid hb1
        clear eV eV1 hb1 HV HO
        by_cases hmore : 128 ≤ s[a + k].toNat
        · have HO := Lib.hid ho
          clear ho
          go_wp2_with fail
          go_roundw
          case rel => exact ⟨trivial, k + 1, by omega, by omega, by go_num, congrArg (Value.int IntKind.i64) (by rw [HO.out, EV1.out]), HX.out.succ HC.out hmore⟩
          case measure => simp [intOf]; omega
        · go_wp2_with fail
          have s0 : (0 : Int) ≤ (a : Int) := by omega
          have s1 : IntKind.i64.wrap ((a : Int) + (k : Int)) = (a : Int) + (k : Int) := IntWalk.i64_in _ (by omega)
          have s2 : IntKind.i64.wrap ((a : Int) + (k : Int) + 1) = (a : Int) + (k : Int) + 1 := IntWalk.i64_in _ (by omega)
          have s3 : (a : Int) ≤ (a : Int) + (k : Int) + 1 := by omega
          have s4 : (a : Int) + (k : Int) + 1 ≤ (s.size : Int) := by omega
          have s5 : ((a : Int) + (k : Int) + 1).toNat = a + k + 1 := by omega
          go_region_held3 (fun w' => True) (exact trivial) (first | (go_at_call 30; refine (specPutVar _ _).mono ?_; rintro e w1 ⟨rfl, hb1⟩))
          have HB := Lib.hid (((Below.refl wr.heap.size wr).drew).trans (hb1.mono (Nat.le_refl _)))
          clear hb1 s1 s2 s3 s4 s5
          have HI := Lib.hid (getVar_is (by rw [HLL.out]; exact ha) HX.out h9 HC.out (by omega))
          have hpl := part_is s a k
          have HPL := Lib.hid hpl
          clear hpl
          go_wp2
          · have hw : ¬ putVar V1 = (s.data.toList.drop a).take (k + 1) := by
              have ht : (!putVar V1 == (s.extract a (a + k + 1)).toList) = true := by assumption
              rw [ByteArray.toList_eq, HPL.out] at ht
              simpa using ht
            go_ret2
            have hg : getVarAt s.data.toList a = none := by rw [HI.out, if_neg]; rw [EV1.out]; exact hw
            exact ⟨ret_ints (getVar1_none hg).1.symm (getVar1_none hg).2.symm, HB.out⟩
          · have hw : putVar V1 = (s.data.toList.drop a).take (k + 1) := by
              have ht : (!putVar V1 == (s.extract a (a + k + 1)).toList) = false := by assumption
              rw [ByteArray.toList_eq, HPL.out] at ht
              simpa using ht
            go_ret2
            have hg : getVarAt s.data.toList a = some ((s.data.toList.drop a).take (k + 1)) := by rw [HI.out, if_pos]; rw [EV1.out]; exact hw
            have hl1 : ((s.data.toList.drop a).take (k + 1)).length = k + 1 := by rw [List.length_take, List.length_drop, HLL.out]; omega
            exact ⟨ret_ints (a := V1) (c := (a : Int) + (k : Int) + 1) ((getVar1_some hg).1.trans EV1.out).symm (by rw [(getVar1_some hg).2, hl1]; omega), HB.out⟩
      · have HB := Lib.hid (getVar_none (by rw [HLL.out]; exact ha) HX.out hk (Or.inl (by rw [List.length_drop, HLL.out]; omega)))
        have i3 : ¬ (a : Int) < (s.size : Int) - (k : Int) := by omega
        go_wp2
        go_ret2
        exact ⟨ret_ints (getVar1_none HB.out).1.symm (getVar1_none HB.out).2.symm, Below.refl _ _⟩
    · have HB := Lib.hid (getVar_none (by rw [HLL.out]; exact ha) HX.out hk (Or.inr (by omega)))
      go_wp2
      go_ret2
      exact ⟨ret_ints (getVar1_none HB.out).1.symm (getVar1_none HB.out).2.symm, Below.refl _ _⟩

set_option maxHeartbeats 400000 in
theorem specGetVar_out (s : ByteArray) (a : Int) (w : World) (hs : s.size ≤ maxLen) (ha : a < 0 ∨ s.size < a) :
    Calls Try.prog 82 #[.string s, .int .i64 a] w (VarOut w s.data.toList a) := by
  have HB := Lib.hid (getVar1_none (getVar_out (l := s.data.toList) (a := a) (by simpa using ha)))
  unfold maxLen at hs
  by_cases h0 : a < 0
  · clear ha
    go_enter Try.func82, Try.ntmps82
    go_wp2_with fail
    go_loop [6, 7] (fun n i => n = .int .i64 0 ∧ i = .int .i64 0) (fun _ _ => 0)
    case atStart => exact ⟨rfl, rfl⟩
    case round =>
      obtain ⟨rfl, rfl⟩ := hrel
      go_wp2
      go_ret2
      exact ⟨ret_ints HB.out.1.symm HB.out.2.symm, Below.refl _ _⟩
  · have h1 : (s.size : Int) < a := by omega
    clear ha
    go_enter Try.func82, Try.ntmps82
    go_wp2_with fail
    go_loop [6, 7] (fun n i => n = .int .i64 0 ∧ i = .int .i64 0) (fun _ _ => 0)
    case atStart => exact ⟨rfl, rfl⟩
    case round =>
      obtain ⟨rfl, rfl⟩ := hrel
      go_wp2
      go_ret2
      exact ⟨ret_ints HB.out.1.symm HB.out.2.symm, Below.refl _ _⟩

theorem specGetVar (s : ByteArray) (a : Int) (w : World) (hs : s.size ≤ maxLen) :
    Calls Try.prog 82 #[.string s, .int .i64 a] w (VarOut w s.data.toList a) := by
  by_cases ho : a < 0 ∨ s.size < a
  · exact specGetVar_out s a w hs ho
  · obtain ⟨a, rfl⟩ := Int.eq_ofNat_of_zero_le (by omega : 0 ≤ a)
    exact specGetVar_in s a w hs (by omega)
end Go.Proofs.Ytgonnibakkabjaa
