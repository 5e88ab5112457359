/- The walk of the law FnPlain. -/
import Derived.Test.YtjgdjpjafhllhaaPackLaw
import Derived.Test.YtjgdjpjafhllhaaAt
import Derived.Test.YtjgdjpjafhllhaaLater
namespace Go.Proofs.Ytjgdjpjafhllhaa
open Go.RowKit
set_option linter.unusedVariables false

/-- The seven words. -/
def sevenV : Array Value := #[.string ⟨#[97, 98, 99, 100]⟩, .string ⟨#[114, 111, 119]⟩, .string ⟨#[120, 121, 122, 122, 121]⟩, .string ⟨#[97, 97, 97, 97, 97, 97, 97, 97]⟩, .string ⟨#[48]⟩, .string ⟨#[0, 0]⟩, .string ⟨#[108, 111, 110, 103, 101, 114, 32, 119, 111, 114, 100, 115, 32, 99, 111, 109, 101, 32, 97, 103, 97, 105, 110]⟩]
theorem seven_at (j : Nat) (h : j < 7) : ∃ P : ByteArray, sevenV[j]? = some (.string P) ∧ 1 ≤ P.size ∧ P.size ≤ 23 := by
  match j, h with
  | 0, _ => exact ⟨_, rfl, by decide, by decide⟩
  | 1, _ => exact ⟨_, rfl, by decide, by decide⟩
  | 2, _ => exact ⟨_, rfl, by decide, by decide⟩
  | 3, _ => exact ⟨_, rfl, by decide, by decide⟩
  | 4, _ => exact ⟨_, rfl, by decide, by decide⟩
  | 5, _ => exact ⟨_, rfl, by decide, by decide⟩
  | 6, _ => exact ⟨_, rfl, by decide, by decide⟩
theorem seven_cell (w : World) (U j : Nat) (h : j < 7) : ∃ P : ByteArray, (w.alloc (.cells sevenV U)).cell? ⟨w.heap.size, j, none⟩ = some (.string P) ∧ 1 ≤ P.size ∧ P.size ≤ 23 := by
  obtain ⟨P, h1, h2⟩ := seven_at j h
  exact ⟨P, by rw [fresh_cell]; exact h1, h2⟩

set_option maxHeartbeats 1000000 in
set_option maxRecDepth 100000 in
theorem plain_some (a : Option Addr) (len cap : Nat) (zs : List Int) (n : Nat) (w : World) (hr : Bytes w w.heap.size a len zs) (hl : len ≤ 1048576) (hn : 1 ≤ n) (hn2 : n ≤ 80) :
    Calls Try.prog 25 #[.slice a len cap, .int .i64 1, .int .i64 n] w fun e w' => ∃ s : ByteArray, 1 ≤ s.size ∧ s.size ≤ 1840 ∧ e = .returned (.string s) ∧ Below w.heap.size w w' := by
  have HR := Lib.hid hr
  clear hr
  go_enter Try.func25, Try.ntmps25
  go_wp2_with fail
  go_loopw [7, 8] (fun t i wr => ∃ (k : Nat) (T : ByteArray), k ≤ n ∧ i = .int .i64 k ∧ t = .string T ∧ k ≤ T.size ∧ T.size ≤ 23 * k ∧ Below w.heap.size w wr) (fun _ i _ => n - (intOf i).toNat)
  case atStart => exact ⟨0, ⟨#[]⟩, by omega, rfl, rfl, by decide, by decide, Below.refl _ _⟩
  case round =>
    obtain ⟨k, T, hk, rfl, rfl, hT1, hT2, hb⟩ := hrel
    have HB := Lib.hid hb
    clear hb
    by_cases hlt : k < n
    · go_wp2_with fail
      have hB2 := HB.out.alloc HB.out.size (.cells sevenV 9)
      have HB2 := Lib.hid hB2
      clear hB2
      have e1 : (1 : Int) + (k : Int) = ((1 + k : Nat) : Int) := by omega
      rw [e1]
      change Calls _ _ _ (wr.alloc (.cells sevenV 9)) _
      refine (at_some a len cap zs (1 + k) _ _ (below_bytes HR.out HB2.out) hl (by omega)).mono ?_
      rintro e w1 ⟨x, hx, rfl, rfl⟩
      obtain ⟨P, hP, hP1, hP2⟩ := seven_cell wr 9 (x % 7) (by omega)
      generalize wr.alloc (.cells sevenV 9) = W2 at *
      have j1 : ((x : Int) % 7).toNat = x % 7 := by omega
      have j2 : (0 : Int) ≤ (x : Int) % 7 := by omega
      have j3 : (x : Int) % 7 < 7 := by omega
      have HS := Lib.hid (show (T ++ P).size = T.size + P.size from ByteArray.size_append ..)
      have t9 : T.size ≤ 1840 := by omega
      clear e1
      go_wp2_with fail
      go_roundw
      case rel => exact ⟨k + 1, T ++ P, by omega, by go_num, rfl, by rw [HS.out]; omega, by rw [HS.out]; omega, HB2.out⟩
      case measure => simp [intOf]; omega
    · obtain rfl : k = n := by omega
      go_wp2
      go_ret
      exact ⟨T, by omega, by omega, rfl, HB.out⟩

theorem drop_last (A : ByteArray) : (A.extract 0 (A.size - 1)).data.toList = A.data.toList.dropLast := by
  simp only [ByteArray.data_extract, Array.toList_extract, List.extract_eq_take_drop, List.drop_zero, Nat.sub_zero]
  rw [List.dropLast_eq_take]
  simp
theorem behind (A : ByteArray) : (A ++ ⟨#[0]⟩).data.toList = A.data.toList ++ [0] := by rw [ByteArray.data_append, Array.toList_append]

set_option maxHeartbeats 1000000 in
set_option maxRecDepth 100000 in
theorem fnPlain_walk (a0 : Option Addr) (len0 cap0 : Nat) (z0 : List Int) (w : World) (w0 : IsRow .u8 w a0 len0 cap0 z0) :
    Calls Try.prog 7 #[.slice a0 len0 cap0] w fun e w' => e = .returned (.bool true) ∧ Below w.heap.size w w' := by
  have HR := Lib.hid (bytes_of_row w0 w.heap.size (Nat.le_refl _))
  clear w0
  by_cases hbig : len0 ≤ 1048576
  · go_enter Try.func7, Try.ntmps7
    go_wp2_with fail
    refine (big_no a0 len0 cap0 _ hbig).mono ?_
    rintro e w1 ⟨rfl, rfl⟩
    go_wp2_with fail
    refine (at_some a0 len0 cap0 z0 0 _ _ HR.out hbig (by omega)).mono ?_
    rintro e w1 ⟨x, hx, rfl, rfl⟩
    go_wp2_with fail
    have e1 : (1 : Int) + (x : Int) % 80 = ((1 + x % 80 : Nat) : Int) := by omega
    rw [e1]
    refine (plain_some a0 len0 cap0 z0 (1 + x % 80) _ HR.out hbig (by omega) (by omega)).mono ?_
    rintro e w1 ⟨s, hs1, hs2, rfl, b1⟩
    have B1 := Lib.hid b1
    clear b1 HR e1
    obtain ⟨A, hA, hAs⟩ := a_text (compress s.data.toList)
    have hl : s.data.toList.length = s.size := by simp
    have HA := Lib.hid hA
    have HE := Lib.hid (expand_compress s.data.toList (by rw [hl]; omega))
    have HM := Lib.hid (expand_more s.data.toList (by rw [hl]; omega))
    have HL := Lib.hid (expand_less s.data.toList (by rw [hl]; omega) (fun e => by rw [e] at hl; simp at hl; omega))
    have ha9 : A.size ≤ 4001 := by rw [hAs]; exact compress_len _
    have ha1 : 1 ≤ A.size := by
      rcases Nat.eq_zero_or_pos A.size with h | h
      · exfalso
        have h2 : compress s.data.toList = [] := List.eq_nil_of_length_eq_zero (by rw [← hAs]; exact h)
        have h3 := HE.out.1
        rw [h2] at h3
        have h4 : expand1 [] = [] := (expand_yes (l := []) (x := []) ⟨by simp, by unfold compress tokens; rw [if_neg (by simp), toksFrom, dif_neg (by simp)]; rfl⟩).1
        rw [h4] at h3
        rw [← h3] at hl
        simp at hl
        omega
      · exact h
    obtain ⟨M, hM⟩ : ∃ M, A ++ (⟨#[0]⟩ : ByteArray) = M := ⟨_, rfl⟩
    have hMs : M.size ≤ 4002 := by rw [← hM, ByteArray.size_append]; have : (⟨#[0]⟩ : ByteArray).size = 1 := rfl; omega
    have HMM := Lib.hid (show expand2 M.data.toList = false by rw [← hM, behind, HA.out]; exact HM.out)
    obtain ⟨L, hL⟩ : ∃ L, A.extract 0 (A.size - 1) = L := ⟨_, rfl⟩
    have hLs : L.size ≤ 4001 := by rw [← hL, ByteArray.size_extract]; omega
    have HLL := Lib.hid (show expand2 L.data.toList = false by rw [← hL, drop_last, HA.out]; exact HL.out)
    have l1 : ((A.size : Int) - 1).toNat = A.size - 1 := by omega
    have l2 : (A.size : Int) - 1 ≤ (A.size : Int) := by omega
    clear hA hAs hl HM HL
    go_wp2_with fail
    refine (implCompress_as s A HA.out _).mono ?_
    rintro e w2 ⟨rfl, b2⟩
    have B2 := Lib.hid (B1.out.trans (b2.mono B1.out.size))
    clear b2
    go_wp2_with fail
    refine (specCompress_as s A HA.out _).mono ?_
    rintro e w3 ⟨rfl, b3⟩
    have B3 := Lib.hid (B2.out.trans (b3.mono B2.out.size))
    clear b3
    go_wp2_with fail
    refine (implExpand_as A s true (by omega) (by rw [HA.out]; exact HE.out.1.symm) (by rw [HA.out]; exact HE.out.2.symm) _).mono ?_
    rintro e w4 ⟨rfl, b4⟩
    have B4 := Lib.hid (B3.out.trans (b4.mono B3.out.size))
    clear b4
    go_wp2_with fail
    try rw [hM]
    refine (implExpand_as M ⟨#[]⟩ false (by omega) (by rw [expand_no _ HMM.out]) HMM.out.symm _).mono ?_
    rintro e w5 ⟨rfl, b5⟩
    have B5 := Lib.hid (B4.out.trans (b5.mono B4.out.size))
    clear b5
    go_wp2_with fail
    try rw [hL]
    refine (implExpand_as L ⟨#[]⟩ false (by omega) (by rw [expand_no _ HLL.out]) HLL.out.symm _).mono ?_
    rintro e w6 ⟨rfl, b6⟩
    have B6 := Lib.hid (B5.out.trans (b6.mono B5.out.size))
    clear b6
    go_wp2
    go_ret
    exact ⟨ret_bool (by simp), B6.out⟩
  · go_enter Try.func7, Try.ntmps7
    go_wp2_with fail
    refine (big_yes a0 len0 cap0 _ hbig).mono ?_
    rintro e w1 ⟨rfl, rfl⟩
    go_wp2
    go_ret
    exact ⟨rfl, Below.refl _ _⟩
end Go.Proofs.Ytjgdjpjafhllhaa
