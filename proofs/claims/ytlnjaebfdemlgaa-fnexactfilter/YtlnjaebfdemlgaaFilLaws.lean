/- The walks of the exact laws of filters. -/
import Derived.Test.YtlnjaebfdemlgaaFilI
import Derived.Test.YtlnjaebfdemlgaaIntMarks
import Derived.Test.YtlnjaebfdemlgaaStrHelp
namespace Go.Proofs.Ytlnjaebfdemlgaa
open Go.RowKit
set_option linter.unusedVariables false

theorem OwnI.under {B b : Nat} {w w' : World} {v : Value} {xs : List Int} (h : OwnI B w v xs) (hb : Below b w w') (hlt : ∀ k, v.ownBlock = some k → k < b) : OwnI B w' v xs := by
  refine ⟨h.1, ?_⟩
  rcases h.2 with h2 | ⟨g, cap, cur, h1, h2, h3, r⟩
  · exact .inl h2
  · subst h1
    exact .inr ⟨g, cap, cur, rfl, h2, (hb.block g (hlt g rfl)).trans h3, r⟩
theorem fnExactHash_walk (w : World) (a0 : ByteArray) (w0 : a0.size ≤ maxLen) :
    Calls Try.prog 7 #[.string a0] w fun e w' => e = .returned (.bool true) ∧ Below w.heap.size w w' := by
  by_cases h0 : a0.size ≤ 1048576
  · go_enter Try.func7, Try.ntmps7
    go_wp2_with fail
    refine (specHash a0 _ w0).mono ?_
    rintro e w1 ⟨rfl, rfl⟩
    go_wp2_with fail
    refine (implHash a0 _ w0).mono ?_
    rintro e w2 ⟨rfl, hb2⟩
    have HB2 := Lib.hid hb2
    clear hb2
    go_wp2
    go_ret
    exact ⟨rfl, HB2.out⟩
  · go_enter Try.func7, Try.ntmps7
    go_wp2
    go_ret
    exact ⟨rfl, Below.refl _ _⟩
theorem fnExactMayHave_walk (w : World) (a0 : ByteArray) (w0 : a0.size ≤ maxLen) (a1 : ByteArray) (w1 : a1.size ≤ maxLen) :
    Calls Try.prog 10 #[.string a0, .string a1] w fun e w' => e = .returned (.bool true) ∧ Below w.heap.size w w' := by
  by_cases h0 : a0.size ≤ 1048576
  · by_cases h1 : a1.size ≤ 1048576
    · go_enter Try.func10, Try.ntmps10
      go_wp2_with fail
      refine (specMayHave a0 a1 _ h0 w1).mono ?_
      obtain ⟨b, hb⟩ : ∃ b, mayHave a0.data.toList a1.data.toList = b := ⟨_, rfl⟩
      have HB := Lib.hid hb
      rw [hb]
      clear hb
      rintro e w3 ⟨rfl, hb3⟩
      have B3 := Lib.hid hb3
      have hbb : (b != b) = false := by simp
      clear hb3
      go_wp2_with fail
      refine (implMayHave a0 a1 _ h0 w1).mono ?_
      rw [HB.out]
      rintro e w2 ⟨rfl, hb2⟩
      have B2 := Lib.hid (B3.out.trans (hb2.mono B3.out.size))
      clear hb2
      go_wp2
      go_ret
      exact ⟨rfl, B2.out⟩
    · go_enter Try.func10, Try.ntmps10
      go_wp2
      go_ret
      exact ⟨rfl, Below.refl _ _⟩
  · go_enter Try.func10, Try.ntmps10
    go_wp2
    go_ret
    exact ⟨rfl, Below.refl _ _⟩

set_option maxHeartbeats 2000000 in
set_option maxRecDepth 100000 in
theorem fnExactProbes_walk (w : World) (a0 : ByteArray) (w0 : a0.size ≤ maxLen) (a1 : Int) :
    Calls Try.prog 8 #[.string a0, .int .i64 a1] w fun e w' => e = .returned (.bool true) ∧ Below w.heap.size w w' := by
  by_cases h0 : a0.size ≤ 1048576
  · obtain ⟨ps, hps⟩ : ∃ ps, probes a0.data.toList a1 = ps := ⟨_, rfl⟩
    have HPS := Lib.hid hps
    have hn6 : ps.length ≤ 6 := by rw [← hps]; exact probes_len _ _
    obtain ⟨n, hn⟩ : ∃ n, (nums ps).length = n := ⟨_, rfl⟩
    have HN := Lib.hid hn
    have hn7 : n ≤ 6 := by rw [← hn, nums_len]; exact hn6
    clear hps hn hn6
    go_enter Try.func8, Try.ntmps8
    go_wp2_with fail
    refine (specProbes a0 a1 _ w0).mono ?_
    rw [HPS.out]
    rintro e w1 ⟨v1, rfl, o1, b1⟩
    obtain ⟨ad1, c1, rfl⟩ := o1.form
    rw [HN.out] at o1 ⊢
    have O1 := Lib.hid o1
    have B1 := Lib.hid b1
    clear o1 b1
    go_wp2_with fail
    refine (implProbes a0 a1 _ w0).mono ?_
    rw [HPS.out]
    rintro e w2 ⟨v2, rfl, o2, b2⟩
    obtain ⟨ad2, c2, rfl⟩ := o2.form
    rw [HN.out] at o2 ⊢
    have hlt1 : ∀ k, (Value.slice ad1 n c1).ownBlock = some k → k < w1.heap.size := fun k hk => (O1.out.lt hk).2
    have HLT := Lib.hid hlt1
    have O2 := Lib.hid o2
    have P2 := Lib.hid (O1.out.below b2)
    have B2 := Lib.hid (B1.out.trans (b2.mono B1.out.size))
    have S2 := Lib.hid b2.size
    clear o2 b2 hlt1
    go_wp2_with fail
    refine (eqIntS_same ad2 ad1 n c2 c1 (nums ps) (by omega) _ O2.out.row P2.out.row).mono ?_
    rintro e w3 ⟨rfl, b3⟩
    have O3 := Lib.hid (O2.out.below b3)
    have P3 := Lib.hid (P2.out.below b3)
    have B3 := Lib.hid (B2.out.trans (b3.mono B2.out.size))
    have S3 := Lib.hid (Nat.le_trans S2.out b3.size)
    clear b3
    go_wp2_with fail
    refine (markIntS_at (.slice ad2 n c2) 1 w1.heap.size (nums ps) _ O3.out (by rw [HN.out]; omega) S3.out).mono ?_
    rw [HN.out]
    obtain ⟨M, hM⟩ : ∃ M : Nat, 1 + n = M := ⟨_, rfl⟩
    rw [hM]
    have HM := Lib.hid hM
    have hM7 : M ≤ 7 := by omega
    rintro e w4 ⟨rfl, o4, b4⟩
    have O4 := Lib.hid o4
    have P4 := Lib.hid (P3.out.under b4 HLT.out)
    have B4 := Lib.hid (B3.out.trans (b4.mono B1.out.size))
    clear o4 b4 hM
    go_wp2_with fail
    refine (heldIntS_at (.slice ad2 n c2) 1 w1.heap.size n _ O4.out (by omega)).mono ?_
    rw [HM.out]
    rintro e w5 ⟨rfl, b5⟩
    have O5 := Lib.hid (O4.out.below b5)
    have P5 := Lib.hid (P4.out.below b5)
    have B5 := Lib.hid (B4.out.trans (b5.mono B4.out.size))
    have hMM : ((M : Int) != (M : Int)) = false := by simp
    have hM0 : ¬ (M : Int) < 0 := by omega
    clear b5
    go_wp2_with fail
    refine (implProbes a0 a1 _ w0).mono ?_
    rw [HPS.out]
    rintro e w6 ⟨v6, rfl, o6, b6⟩
    obtain ⟨ad6, c6, rfl⟩ := o6.form
    rw [HN.out] at o6 ⊢
    have O6 := Lib.hid (O5.out.below b6)
    have P6 := Lib.hid (P5.out.below b6)
    have Z6 := Lib.hid o6
    have B6 := Lib.hid (B5.out.trans (b6.mono B5.out.size))
    clear o6 b6
    go_wp2_with fail
    refine (eqIntS_same ad6 ad1 n c6 c1 (nums ps) (by omega) _ Z6.out.row P6.out.row).mono ?_
    rintro e w7 ⟨rfl, b7⟩
    have O7 := Lib.hid (O6.out.below b7)
    have B7 := Lib.hid (B6.out.trans (b7.mono B6.out.size))
    clear b7
    go_wp2_with fail
    refine (heldIntS_at (.slice ad2 n c2) 1 w1.heap.size n _ O7.out (by omega)).mono ?_
    rw [HM.out]
    rintro e w8 ⟨rfl, b8⟩
    have B8 := Lib.hid (B7.out.trans (b8.mono B7.out.size))
    clear b8
    go_wp2
    go_ret
    exact ⟨rfl, B8.out⟩
  · go_enter Try.func8, Try.ntmps8
    go_wp2
    go_ret
    exact ⟨rfl, Below.refl _ _⟩

set_option maxHeartbeats 2000000 in
set_option maxRecDepth 100000 in
theorem fnExactFilter_walk (w : World) (a : Option Addr) (len cap : Nat) (xs : List ByteArray) (w0 : StrsIn w a len cap xs) :
    Calls Try.prog 9 #[.slice a len cap] w fun e w' => e = .returned (.bool true) ∧ Below w.heap.size w w' := by
  have HA := Lib.hid (strs_at w0)
  clear w0
  have HF := Lib.hid HA.out.2.2.2.1
  have HL := Lib.hid HA.out.1
  obtain ⟨A, hA⟩ : ∃ A : ByteArray, (⟨(filterB (lists xs)).toArray⟩ : ByteArray) = A := ⟨_, rfl⟩
  have HAT := Lib.hid hA
  clear hA
  go_enter Try.func9, Try.ntmps9
  go_wp2_with fail
  refine (szStringS_at a len cap xs 1048576 (by omega) (by omega) _ HA.out).mono ?_
  rintro e w1 ⟨m, rfl, hm, rfl⟩
  rcases hm with rfl | ⟨hm0, hm1⟩
  · go_wp2
    go_ret
    exact ⟨rfl, Below.refl _ _⟩
  · have hmn : ¬ (m < 0) := by omega
    have hfew : len ≤ 1048576 := by omega
    clear hm1
    go_wp2_with fail
    refine (toStringS_at a len cap xs hfew _ HA.out).mono ?_
    rintro e w2 ⟨g, rfl, hg, hc2, hb2⟩
    have C2 := Lib.hid (hc2.row HL.out)
    have A2 := Lib.hid (HA.out.below hb2)
    have B2 := Lib.hid hb2
    clear hc2 hb2
    go_wp2_with fail
    refine (specFilter _ len len xs hfew HF.out _ C2.out).mono ?_
    rintro e w3 ⟨rfl, hb3⟩
    rw [HAT.out]
    have A3 := Lib.hid (A2.out.below hb3)
    have B3 := Lib.hid (B2.out.trans (hb3.mono B2.out.size))
    clear hb3
    go_wp2_with fail
    refine (toStringS_at a len cap xs hfew _ A3.out).mono ?_
    rintro e w4 ⟨g4, rfl, hg4, hc4, hb4⟩
    have C4 := Lib.hid (hc4.row HL.out)
    have A4 := Lib.hid (A3.out.below hb4)
    have B4 := Lib.hid (B3.out.trans (hb4.mono B3.out.size))
    clear hc4 hb4
    go_wp2_with fail
    refine (implFilter _ len len xs hfew HF.out _ C4.out).mono ?_
    rintro e w5 ⟨rfl, hb5⟩
    rw [HAT.out]
    have C5 := Lib.hid (C4.out.below hb5)
    have A5 := Lib.hid (A4.out.below hb5)
    have B5 := Lib.hid (B4.out.trans (hb5.mono B4.out.size))
    have hsame : (A.toList == A.toList) = true := by simp
    clear hb5
    go_wp2_with fail
    refine (toStringS_at a len cap xs hfew _ A5.out).mono ?_
    rintro e w7 ⟨g7, rfl, hg7, hc7, hb7⟩
    have C7 := Lib.hid (C5.out.below hb7)
    have D7 := Lib.hid (hc7.row HL.out)
    have B7 := Lib.hid (B5.out.trans (hb7.mono B5.out.size))
    clear hc7 hb7
    go_wp2_with fail
    refine (eqStrs_same _ _ len len len xs hfew _ C7.out D7.out).mono ?_
    rintro e w8 ⟨rfl, hb8⟩
    have B8 := Lib.hid (B7.out.trans (hb8.mono B7.out.size))
    clear hb8
    go_wp2
    go_ret
    exact ⟨rfl, B8.out⟩
end Go.Proofs.Ytlnjaebfdemlgaa
