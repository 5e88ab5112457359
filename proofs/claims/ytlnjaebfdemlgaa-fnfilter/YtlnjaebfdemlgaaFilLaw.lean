/- The walk of the law FnFilter: who was put in a filter may be in it; of an empty one nobody is told. -/
import Derived.Test.YtlnjaebfdemlgaaFilI
import Derived.Test.YtlnjaebfdemlgaaDrawFil
import Derived.Test.YtlnjaebfdemlgaaLawA
namespace Go.Proofs.Ytlnjaebfdemlgaa
open Go.RowKit
set_option linter.unusedVariables false

theorem least_at (a b : Int) (w : World) : Calls Try.prog 18 #[.int .i64 a, .int .i64 b] w fun e w' => e = .returned (.int .i64 (if a < b then a else b)) ∧ w = w' := by
  by_cases h : a < b
  · go_enter Try.func18, Try.ntmps18
    go_wp2
    go_ret
    exact ⟨rfl, rfl⟩
  · go_enter Try.func18, Try.ntmps18
    go_wp2
    go_ret
    exact ⟨rfl, rfl⟩
/-- Of nothing, or of noughts alone, nobody is told. -/
theorem zeros_no (n : Nat) (key : List UInt8) : mayHave (List.replicate n 0) key = false := by
  cases hp : probes key (8 * (List.replicate n (0 : UInt8)).length : Nat) with
  | nil => exact may_none hp
  | cons p r => exact may_no (p := p) (by rw [hp]; simp) (zero_bit n p)
/-- In a byte of ones each is told. -/
theorem ones_yes (key : List UInt8) : mayHave [255] key = true := by
  have hb : ∀ q, q < 8 → bitAt [255] q = true := by decide
  refine may_yes ?_ (fun j q hq => hb q ?_)
  · show probes key ((8 : Nat) : Int) ≠ []
    rw [probes_yes (by omega) (by omega)]
    intro e
    have := congrArg List.length e
    rw [six_len] at this
    simp at this
  · have := probes_lt (List.mem_of_getElem? hq)
    simpa using this

set_option maxHeartbeats 4000000 in
set_option maxRecDepth 100000 in
theorem fnFilter_walk (a0 : Option Addr) (len0 cap0 : Nat) (z0 : List Int) (w : World) (w0 : IsRow .u8 w a0 len0 cap0 z0) :
    Calls Try.prog 3 #[.slice a0 len0 cap0] w fun e w' => e = .returned (.bool true) ∧ Below w.heap.size w w' := by
  have HR := Lib.hid (bytes_of_row w0 w.heap.size (Nat.le_refl _))
  clear w0
  by_cases hbig : len0 ≤ 1048576
  · go_enter Try.func3, Try.ntmps3
    go_wp2_with fail
    refine (big_no a0 len0 cap0 _ hbig).mono ?_
    rintro e w1 ⟨rfl, rfl⟩
    go_wp2_with fail
    refine (drawFilter_at a0 len0 cap0 z0 _ HR.out).mono ?_
    rintro e w1 ⟨ad, n, c, xs, rfl, hn, r1, hs, b1⟩
    have R1 := Lib.hid r1
    have HL := Lib.hid r1.1
    have hnc := r1.2.1
    have HS := Lib.hid hs
    have HF := Lib.hid (fit_of (by omega) hs)
    have B1 := Lib.hid b1
    have HR1 := Lib.hid (below_bytes HR.out b1)
    obtain ⟨A, hA⟩ : ∃ A : ByteArray, (⟨(filterB (lists xs)).toArray⟩ : ByteArray) = A := ⟨_, rfl⟩
    have HAT := Lib.hid hA
    have HAL := Lib.hid (show A.data.toList = filterB (lists xs) by rw [← hA])
    clear r1 hs b1 hA
    go_wp2_with fail
    refine (implFilter ad n c xs (by omega) HF.out _ R1.out).mono ?_
    rintro e w2 ⟨rfl, b2⟩
    rw [HAT.out]
    have R2 := Lib.hid (R1.out.below b2)
    have B2 := Lib.hid (B1.out.trans (b2.mono B1.out.size))
    have HR2 := Lib.hid (below_bytes HR.out B2.out)
    clear b2
    go_wp2_with fail
    refine (drawMayHave_at a0 len0 cap0 z0 _ HR2.out).mono ?_
    rintro e w3 ⟨f, k, rfl, hf3, hk1, b3⟩
    have R3 := Lib.hid (R2.out.below b3)
    have B3 := Lib.hid (B2.out.trans (b3.mono B2.out.size))
    have hsame : (A.toList == A.toList) = true := by simp
    obtain ⟨b, hb⟩ : ∃ b, mayHave f.data.toList k.data.toList = b := ⟨_, rfl⟩
    have HB := Lib.hid hb
    have hbb : (b != b) = false := by simp
    have hkm : k.size ≤ maxLen := Nat.le_trans hk1 (by unfold maxLen; omega)
    clear b3 hb
    go_wp2_with fail
    refine (specFilter ad n c xs (by omega) HF.out _ R3.out).mono ?_
    rintro e w4 ⟨rfl, b4⟩
    rw [HAT.out]
    have R4 := Lib.hid (R3.out.below b4)
    have B4 := Lib.hid (B3.out.trans (b4.mono B3.out.size))
    clear b4
    go_wp2_with fail
    refine (implMayHave f k _ (by omega) hkm).mono ?_
    rw [HB.out]
    rintro e w5 ⟨rfl, b5⟩
    have R5 := Lib.hid (R4.out.below b5)
    have B5 := Lib.hid (B4.out.trans (b5.mono B4.out.size))
    clear b5
    go_wp2_with fail
    refine (specMayHave f k _ (by omega) hkm).mono ?_
    rw [HB.out]
    rintro e w6 ⟨rfl, b6⟩
    have R6 := Lib.hid (R5.out.below b6)
    have B6 := Lib.hid (B5.out.trans (b6.mono B5.out.size))
    clear b6
    by_cases h200 : n ≤ 200
    · have h2 : ¬ (200 : Int) < (n : Int) := by omega
      have hAs : A.size = fsize n := by
        have h3 := filter_len (keys := lists xs) (by rw [lists_len, HL.out]; exact h200)
        rw [← HAL.out, lists_len, HL.out] at h3
        simpa using h3
      have HAS := Lib.hid hAs
      have hA20 : A.size ≤ 250 := by rw [hAs]; exact fsize_le h200
      have HHK := Lib.hid (fun (k : List UInt8) hk => has_keys (keys := lists xs) (k := k) (by rw [lists_len, HL.out]; exact h200) hk)
      clear hAs
      go_wp2_with fail
      go_loopw [7] (fun ii wr => ∃ i : Nat, i ≤ n ∧ ii = .int .i64 i ∧ Hid (StrAt wr ad n c xs ∧ Below w.heap.size w wr)) (fun ii _ => n - (intOf ii).toNat)
      case atStart => exact ⟨0, Nat.zero_le _, rfl, ⟨R6.out, B6.out⟩⟩
      case round =>
        obtain ⟨i, hi, rfl, RR⟩ := hrel
        by_cases hlt : i < n
        · obtain ⟨x, hx⟩ : ∃ x, xs[i]? = some x := ⟨_, List.getElem?_eq_getElem (by rw [HL.out]; exact hlt)⟩
          obtain ⟨g, hg, c0⟩ := RR.out.1.2.2 i x hx
          subst hg
          have HX := Lib.hid (HF.out x (List.mem_of_getElem? hx))
          have HK := Lib.hid (show mayHave A.data.toList x.data.toList = true by
            rw [HAL.out]
            exact HHK.out x.data.toList (List.mem_of_getElem? (lists_at hx)))
          have i1 : (i : Int) < (n : Int) := by omega
          have i0 : (0 : Int) ≤ (i : Int) := by omega
          clear hx
          go_wp2_with fail
          refine (implMayHave A x _ (by omega) HX.out).mono ?_
          rw [HK.out]
          rintro e w7 ⟨rfl, b7⟩
          have R7 := Lib.hid (RR.out.1.below b7)
          have B7 := Lib.hid (RR.out.2.trans (b7.mono RR.out.2.size))
          clear b7 c0
          go_wp2
          go_roundw
          case rel => exact ⟨i + 1, by omega, by go_num, ⟨R7.out, B7.out⟩⟩
          case measure => simp [intOf]; omega
        · obtain rfl : i = n := by omega
          have h3 : ¬ (i : Int) < (i : Int) := by omega
          have B7 := Lib.hid RR.out.2
          clear RR
          go_wp2_with fail
          refine (implMayHave ⟨#[]⟩ ⟨#[120]⟩ _ (by decide) (by unfold maxLen; decide)).mono ?_
          rw [show mayHave (⟨#[]⟩ : ByteArray).data.toList (⟨#[120]⟩ : ByteArray).data.toList = false from zeros_no 0 _]
          rintro e w8 ⟨rfl, b8⟩
          have B8 := Lib.hid (B7.out.trans (b8.mono B7.out.size))
          clear b8
          go_wp2_with fail
          refine (implMayHave ⟨#[0, 0]⟩ ⟨#[120]⟩ _ (by decide) (by unfold maxLen; decide)).mono ?_
          rw [show mayHave (⟨#[0, 0]⟩ : ByteArray).data.toList (⟨#[120]⟩ : ByteArray).data.toList = false from zeros_no 2 _]
          rintro e w9 ⟨rfl, b9⟩
          have B9 := Lib.hid (B8.out.trans (b9.mono B8.out.size))
          clear b9
          go_wp2_with fail
          refine (implMayHave ⟨#[255]⟩ ⟨#[120]⟩ _ (by decide) (by unfold maxLen; decide)).mono ?_
          rw [show mayHave (⟨#[255]⟩ : ByteArray).data.toList (⟨#[120]⟩ : ByteArray).data.toList = true from ones_yes _]
          rintro e w10 ⟨rfl, b10⟩
          have B10 := Lib.hid (B9.out.trans (b10.mono B9.out.size))
          clear b10
          go_wp2_with fail
          refine (least_at 1 (i : Int) _).mono ?_
          rintro e w11 ⟨rfl, rfl⟩
          by_cases h0 : i = 0
          · subst h0
            have hA1 : A.size = 1 := by rw [HAS.out]; rfl
            have hA2 : (A.size : Int) = 1 := by omega
            clear hA1
            go_wp2
            go_ret
            exact ⟨rfl, B10.out⟩
          · have hl : (if (1 : Int) < (i : Int) then (1 : Int) else (i : Int)) = 1 := by split <;> omega
            rw [hl]
            have hA1 : A.size = (10 * i + 7) / 8 := by rw [HAS.out, fsize_in (by omega)]
            have hA2 : (A.size : Int) = ((10 : Int) * (i : Int) + 7) / 8 := by omega
            have hA3 : ((A.size : Int) == ((10 : Int) * (i : Int) + 7) / 8) = true := by simpa using hA2
            clear hA1 hl
            go_wp2
            go_ret
            exact ⟨ret_bool (by simp), B10.out⟩
    · have hem : A = ⟨#[]⟩ := bytes_ext (by rw [HAL.out, filter_no (by rw [lists_len, HL.out]; omega)])
      have h2 : (200 : Int) < (n : Int) := by omega
      subst hem
      clear hsame
      go_wp2
      go_ret
      exact ⟨rfl, B6.out⟩
  · go_enter Try.func3, Try.ntmps3
    go_wp2_with fail
    refine (big_yes a0 len0 cap0 _ hbig).mono ?_
    rintro e w1 ⟨rfl, rfl⟩
    go_wp2
    go_ret
    exact ⟨rfl, Below.refl _ _⟩
end Go.Proofs.Ytlnjaebfdemlgaa
