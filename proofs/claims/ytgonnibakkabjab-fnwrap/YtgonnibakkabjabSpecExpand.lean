/- Contract of the model's Expand. -/
import Derived.Test.YtgonnibakkabjabIn
import Derived.Test.YtgonnibakkabjabSpecCompress
import Derived.BigQuiet
namespace Go.Proofs.Ytgonnibakkabjab
open Go.RowKit
set_option linter.unusedVariables false

/-- Expand's two answers. -/
def ExpOut (w : World) (l : List UInt8) (e : Ending) (w' : World) : Prop := e = .returned (.tuple #[.string ⟨(expand1 l).toArray⟩, .bool (expand2 l)]) ∧ Below w.heap.size w w'

theorem ret_exp {a b : ByteArray} {c d : Bool} (h1 : a = b) (h2 : c = d) : Ending.returned (.tuple #[.string a, .bool c]) = .returned (.tuple #[.string b, .bool d]) := by rw [h1, h2]
theorem exp_none {l : List UInt8} (h : decFrom l 0 [] = none) : expand1 l = [] ∧ expand2 l = false := by unfold expand1 expand2 expandB; rw [h]; exact ⟨rfl, rfl⟩
theorem exp_yes {l out : List UInt8} (h : decFrom l 0 [] = some out) (h2 : compress out = l) : expand1 l = out ∧ expand2 l = true := by unfold expand1 expand2 expandB; rw [h]; simp [h2]
theorem exp_no {l out : List UInt8} (h : decFrom l 0 [] = some out) (h2 : ¬ compress out = l) : expand1 l = [] ∧ expand2 l = false := by unfold expand1 expand2 expandB; rw [h]; simp [h2]

/-- Bytes gathered: how long the slice is, and where they lie. -/
theorem BRow.form {w0 w : World} {v : Value} {xs : List UInt8} (t : BRow w0 w v xs) : ∃ (a : Option Addr) (c : Nat), v = .slice a xs.length c ∧ ∀ j, j < xs.length → ∃ g, a = some ⟨g, 0, none⟩ ∧ xs.length ≤ c ∧ w.cell? ⟨g, j, none⟩ = some (u8v (xs.getD j 0)) := by
  rcases t.row.2 with ⟨h0, hn⟩ | ⟨g, cap, cur, h1, _, _, hc, _⟩
  · exact ⟨none, 0, by rw [hn]; exact h0, fun j hj => by omega⟩
  · subst h1
    exact ⟨_, cap, rfl, fun j hj => ⟨g, rfl, hc, t.cell j hj⟩⟩

/-- What is made behind a row leaves it. -/
theorem BRow.later {w0 w w' : World} {v : Value} {xs : List UInt8} (t : BRow w0 w v xs) (hb : Below w.heap.size w w') : BRow w0 w' v xs := by
  refine ⟨?_, t.below.trans (hb.mono t.below.size)⟩
  refine ⟨t.row.1, ?_⟩
  rcases t.row.2 with h2 | ⟨g, cap, cur, h1, h2, h3, r⟩
  · exact .inl h2
  · exact .inr ⟨g, cap, cur, h1, h2, (hb.block g ((Array.getElem?_eq_some_iff.1 h3).1)).trans h3, r⟩
theorem BRow.str2 {w0 w : World} {a : Option Addr} {c n : Nat} {xs : List UInt8} (t : BRow w0 w (.slice a n c) xs) : (convert 22 9 (.slice a n c)).run Try.prog w = .ok (.string ⟨xs.toArray⟩) w := by
  obtain ⟨n', c', a', hv, h⟩ := brow_conv t
  cases hv
  exact h
theorem dec_text {s out : List UInt8} {i : Nat} (h : i < s.length) (hb : 1 ≤ s[i].toNat ∧ s[i].toNat ≤ 127) (hl : i + 1 + s[i].toNat ≤ s.length) : decFrom s i out = decFrom s (i + 1 + s[i].toNat) (out ++ (s.drop (i + 1)).take s[i].toNat) := by
  rw [decFrom, dif_pos h, dif_pos hb, if_pos hl]
theorem dec_cut {s out : List UInt8} {i : Nat} (h : i < s.length) (hb : 1 ≤ s[i].toNat ∧ s[i].toNat ≤ 127) (hl : ¬ i + 1 + s[i].toNat ≤ s.length) : decFrom s i out = none := by
  rw [decFrom, dif_pos h, dif_pos hb, if_neg hl]
theorem dec_bad {s out : List UInt8} {i : Nat} (h : i < s.length) (hb : ¬ (1 ≤ s[i].toNat ∧ s[i].toNat ≤ 127)) (hc : s[i].toNat = 0 ∨ s.length ≤ i + 1 ∨ (s.getD (i + 1) 0).toNat = 0 ∨ out.length < (s.getD (i + 1) 0).toNat ∨ 2000 < out.length) : decFrom s i out = none := by
  rw [decFrom, dif_pos h, dif_neg hb, if_pos hc]
theorem dec_copy {s out : List UInt8} {i : Nat} (h : i < s.length) (hb : ¬ (1 ≤ s[i].toNat ∧ s[i].toNat ≤ 127)) (hc : ¬ (s[i].toNat = 0 ∨ s.length ≤ i + 1 ∨ (s.getD (i + 1) 0).toNat = 0 ∨ out.length < (s.getD (i + 1) 0).toNat ∨ 2000 < out.length)) : decFrom s i out = decFrom s (i + 2) (copyOut out (s.getD (i + 1) 0).toNat (s[i].toNat - 124)) := by
  rw [decFrom, dif_pos h, dif_neg hb, if_neg hc]
theorem dec_end {s out : List UInt8} {i : Nat} (h : ¬ i < s.length) : decFrom s i out = some out := by
  rw [decFrom, dif_neg h]
theorem ne_false (A : ByteArray) : (!A.toList == A.toList) = false := by simp
theorem ne_true {A B : ByteArray} (h : A.data.toList ≠ B.data.toList) : (!A.toList == B.toList) = true := by rw [ByteArray.toList_eq, ByteArray.toList_eq]; simpa using h
theorem mid_list (s : ByteArray) (a n : Nat) : (s.extract a (a + n)).data.toList = (s.data.toList.drop a).take n := by
  simp only [ByteArray.data_extract, Array.toList_extract, List.extract_eq_take_drop]
  congr 1
  omega

set_option maxHeartbeats 4000000 in
set_option maxRecDepth 100000 in
theorem specExpand (s : ByteArray) (w : World) (hs : s.size ≤ 100000000) :
    Calls Try.prog 29 #[.string s] w (ExpOut w s.data.toList) := by
  have hll : s.data.toList.length = s.size := by simp
  have HLL := Lib.hid hll
  clear hll
  go_enter Try.func29, Try.ntmps29
  go_wp2_with fail
  go_loopw [4, 5] (fun v ii wr => ∃ (i : Nat) (out : List UInt8), i ≤ s.size ∧ ii = .int .i64 i ∧ out.length ≤ 2131 + i ∧ BRow w wr v out ∧ Hid (decFrom s.data.toList i out = decFrom s.data.toList 0 [])) (fun _ ii _ => s.size - (intOf ii).toNat)
  case atStart => exact ⟨0, [], by omega, rfl, by simp, brow_made w, rfl⟩
  case round =>
    obtain ⟨i, out, hi, rfl, hol, t, HD⟩ := hrel
    have TT := Lib.hid t
    obtain ⟨a, c, rfl, hcell⟩ := t.form
    have HCELL := Lib.hid hcell
    clear hcell
    by_cases hlt : i < s.size
    · have i1 : (i : Int) < (s.size : Int) := by omega
      have hb := s[i].toNat_lt
      clear t
      by_cases hb1 : 1 ≤ s[i].toNat ∧ s[i].toNat ≤ 127
      · obtain ⟨b1, b2⟩ := hb1
        by_cases hfit : i + 1 + s[i].toNat ≤ s.size
        · have HD2 := Lib.hid (show decFrom s.data.toList (i + 1 + s[i].toNat) (out ++ (s.data.toList.drop (i + 1)).take s[i].toNat) = decFrom s.data.toList 0 [] from
            (dec_text (s := s.data.toList) (out := out) (i := i) (Nat.lt_of_lt_of_eq hlt HLL.out.symm) ⟨b1, b2⟩ (by have h9 := HLL.out; have h8 : s.data.toList[i]'(Nat.lt_of_lt_of_eq hlt HLL.out.symm) = s[i] := rfl; rw [h8]; omega)).symm.trans HD.out)
          obtain ⟨P, hP⟩ : ∃ P, s.extract (i + 1) (i + 1 + s[i].toNat) = P := ⟨_, rfl⟩
          have HPL := Lib.hid (show P.data.toList = (s.data.toList.drop (i + 1)).take s[i].toNat by rw [← hP, mid_list])
          have hPs : P.size = s[i].toNat := by rw [← hP, ByteArray.size_extract]; omega
          have hPs1 : P.size ≤ 127 := by omega
          have HPS := Lib.hid hPs
          have HPL2 := Lib.hid (show P.data.toList.length = s[i].toNat by rw [← hPs]; simp)
          have e2 : ((i : Int) + 1 + (s[i].toNat : Int)).toNat = i + 1 + s[i].toNat := by omega
          clear hPs
          go_wp2_with (first
            | (go_at_call 41; refine (specIn_yes _ _ _ _ (by omega) (by omega)).mono ?_; rintro e w1 ⟨rfl, rfl⟩)
            | (at_builtin; refine wpList_plain rfl (fun K hK => ?_); refine op_pushS P _ _ rfl rfl rfl TT.out (by omega) ?_; intro v2 w2 t2 hg2; refine hK _ _ ?_; clear hK K; have T2 := Lib.hid t2; clear t2 hg2))
          go_roundw
          case rel => exact ⟨i + 1 + s[i].toNat, _, by omega, by go_num, by rw [List.length_append, HPL2.out]; omega, T2.out, by rw [HPL.out]; exact HD2.out⟩
          case measure => simp [intOf]; omega
        · have HN := Lib.hid (HD.out.symm.trans (dec_cut (s := s.data.toList) (out := out) (i := i) (Nat.lt_of_lt_of_eq hlt HLL.out.symm) ⟨b1, b2⟩ (by have h9 := HLL.out; have h8 : s.data.toList[i]'(Nat.lt_of_lt_of_eq hlt HLL.out.symm) = s[i] := rfl; rw [h8]; omega)))
          have hfit' : (s.size : Int) < (i : Int) + 1 + (s[i].toNat : Int) := by omega
          go_wp2_with (first
            | (go_at_call 41; refine (specIn_yes _ _ _ _ (by omega) (by omega)).mono ?_; rintro e w1 ⟨rfl, rfl⟩))
          go_ret2
          exact ⟨ret_exp (a := ⟨#[]⟩) (by rw [(exp_none HN.out).1]) (exp_none HN.out).2.symm, TT.out.below⟩
      · have HNB := Lib.hid hb1
        have hnb : (s[i].toNat : Int) < 1 ∨ 127 < (s[i].toNat : Int) := by omega
        by_cases h0 : s[i].toNat = 0
        · have d0 : ((s[i].toNat : Int) == 0) = true := by rw [h0]; rfl
          have HH0 := Lib.hid h0
          clear h0
          have HN := Lib.hid (HD.out.symm.trans (dec_bad (s := s.data.toList) (out := out) (i := i) (Nat.lt_of_lt_of_eq hlt HLL.out.symm) HNB.out (.inl HH0.out)))
          clear hb1
          go_wp2_with (first
            | (go_at_call 41; refine (specIn_no _ _ _ _ hnb).mono ?_; rintro e w1 ⟨rfl, rfl⟩))
          go_ret2
          exact ⟨ret_exp (a := ⟨#[]⟩) (by rw [(exp_none HN.out).1]) (exp_none HN.out).2.symm, TT.out.below⟩
        · have d0 : ((s[i].toNat : Int) == 0) = false := by simp; omega
          have hbig : 128 ≤ s[i].toNat := by omega
          have HH0 := Lib.hid h0
          clear h0
          have w1 : IntKind.i64.wrap ((i : Int) + 1) = (i : Int) + 1 := IntWalk.i64_in _ (by omega)
          by_cases h1 : i + 1 < s.size
          · have d1 : decide ((s.size : Int) ≤ (i : Int) + 1) = false := by simp; omega
            have j1 : (i : Int) + 1 < (s.size : Int) := by omega
            have j2 : ((i : Int) + 1).toNat = i + 1 := by omega
            have HS1 := Lib.hid (show s.data.toList.getD (i + 1) 0 = s[i + 1] by rw [List.getD_eq_getElem?_getD, byte_at s (i + 1) h1]; rfl)
            have hfb := s[i + 1].toNat_lt
            by_cases h2 : s[i + 1].toNat = 0
            · have d2 : ((s[i + 1].toNat : Int) == 0) = true := by rw [h2]; rfl
              have HH2 := Lib.hid h2
              clear h2
              have HN := Lib.hid (HD.out.symm.trans (dec_bad (s := s.data.toList) (out := out) (i := i) (Nat.lt_of_lt_of_eq hlt HLL.out.symm) HNB.out (.inr (.inr (.inl (by rw [HS1.out]; exact HH2.out))))))
              clear hb1
              go_wp2_with (first
                | (go_at_call 41; refine (specIn_no _ _ _ _ hnb).mono ?_; rintro e w1 ⟨rfl, rfl⟩))
              go_ret2
              exact ⟨ret_exp (a := ⟨#[]⟩) (by rw [(exp_none HN.out).1]) (exp_none HN.out).2.symm, TT.out.below⟩
            · have d2 : ((s[i + 1].toNat : Int) == 0) = false := by simp; omega
              have HH2 := Lib.hid h2
              have hf1 : 1 ≤ s[i + 1].toNat := by omega
              clear h2
              by_cases h3 : out.length < s[i + 1].toNat
              · have d3 : decide ((out.length : Int) < (s[i + 1].toNat : Int)) = true := by simp; omega
                have HN := Lib.hid (HD.out.symm.trans (dec_bad (s := s.data.toList) (out := out) (i := i) (Nat.lt_of_lt_of_eq hlt HLL.out.symm) HNB.out (.inr (.inr (.inr (.inl (by rw [HS1.out]; exact h3)))))))
                clear hb1
                go_wp2_with (first
                  | (go_at_call 41; refine (specIn_no _ _ _ _ hnb).mono ?_; rintro e w1 ⟨rfl, rfl⟩))
                go_ret2
                exact ⟨ret_exp (a := ⟨#[]⟩) (by rw [(exp_none HN.out).1]) (exp_none HN.out).2.symm, TT.out.below⟩
              · have d3 : decide ((out.length : Int) < (s[i + 1].toNat : Int)) = false := by simp; omega
                by_cases h4 : 2000 < out.length
                · have d4 : decide ((2000 : Int) < (out.length : Int)) = true := by simp; omega
                  have HN := Lib.hid (HD.out.symm.trans (dec_bad (s := s.data.toList) (out := out) (i := i) (Nat.lt_of_lt_of_eq hlt HLL.out.symm) HNB.out (.inr (.inr (.inr (.inr h4))))))
                  clear hb1
                  go_wp2_with (first
                    | (go_at_call 41; refine (specIn_no _ _ _ _ hnb).mono ?_; rintro e w1 ⟨rfl, rfl⟩))
                  go_ret2
                  exact ⟨ret_exp (a := ⟨#[]⟩) (by rw [(exp_none HN.out).1]) (exp_none HN.out).2.symm, TT.out.below⟩
                · have d4 : decide ((2000 : Int) < (out.length : Int)) = false := by simp; omega
                  have HD2 := Lib.hid (show decFrom s.data.toList (i + 2) (copyOut out s[i + 1].toNat (s[i].toNat - 124)) = decFrom s.data.toList 0 [] from by
                    rw [← HS1.out]
                    exact (dec_copy (s := s.data.toList) (out := out) (i := i) (Nat.lt_of_lt_of_eq hlt HLL.out.symm) HNB.out (by
                      rw [HS1.out]
                      rintro (h | h | h | h | h)
                      · exact HH0.out h
                      · have := HLL.out; omega
                      · exact HH2.out h
                      · exact h3 h
                      · exact h4 h)).symm.trans HD.out)
                  clear hb1
                  have HCELL' := HCELL
                  clear HCELL
                  go_wp2_with (first
                    | (go_at_call 41; refine (specIn_no _ _ _ _ hnb).mono ?_; rintro e w1 ⟨rfl, rfl⟩))
                  clear d0 d1 d2 d3 d4
                  go_loopw [4, 7] (fun v kk wi => ∃ k : Nat, k ≤ s[i].toNat - 124 ∧ kk = .int .i64 k ∧ BRow w wi v (copyOut out s[i + 1].toNat k)) (fun _ kk _ => s[i].toNat - 124 - (intOf kk).toNat)
                  case atStart => exact ⟨0, by omega, rfl, TT.out⟩
                  case round =>
                    obtain ⟨k, hk, rfl, t⟩ := hrel
                    have hxl := copyOut_len out s[i + 1].toNat k
                    obtain ⟨X, hX⟩ : ∃ X, copyOut out s[i + 1].toNat k = X := ⟨_, rfl⟩
                    have hX1 : copyOut out s[i + 1].toNat (k + 1) = X ++ [X.getD (X.length - s[i + 1].toNat) 0] := by rw [copyOut, hX]
                    rw [hX] at t hxl
                    have HX := Lib.hid hX
                    have HX1 := Lib.hid hX1
                    clear hX hX1
                    have TX := Lib.hid t
                    obtain ⟨a', c', rfl, hcell⟩ := t.form
                    clear t
                    have x1 : s[i + 1].toNat ≤ X.length := by omega
                    have x2 : X.length ≤ 2131 := by omega
                    have HXL := Lib.hid hxl
                    clear hxl
                    by_cases hkl : k < s[i].toNat - 124
                    · have k1 : (k : Int) < (s[i].toNat : Int) - 124 := by omega
                      obtain ⟨g, rfl, hc, hcell⟩ := hcell (X.length - s[i + 1].toNat) (by omega)
                      obtain ⟨y, hy⟩ : ∃ y, X.getD (X.length - s[i + 1].toNat) 0 = y := ⟨_, rfl⟩
                      rw [hy] at hcell HX1
                      clear hy
                      unfold u8v at hcell
                      have x3 : ((X.length : Int) - (s[i + 1].toNat : Int)).toNat = X.length - s[i + 1].toNat := by omega
                      have x4 : (X.length : Int) - (s[i + 1].toNat : Int) < (X.length : Int) := by omega
                      have x5 : (s[i + 1].toNat : Int) ≤ (X.length : Int) := by omega
                      have x6 : IntKind.i64.wrap ((X.length : Int) - (s[i + 1].toNat : Int)) = (X.length : Int) - (s[i + 1].toNat : Int) := IntWalk.i64_in _ (by omega)
                      go_wp2_with (at_builtin; refine wp_pushB y rfl rfl _ _ rfl rfl rfl TX.out (by omega) ?_; intro g2 c2 w2 t2; have T2 := Lib.hid t2; clear t2)
                      go_roundw
                      case rel => exact ⟨k + 1, by omega, by go_num, by rw [HX1.out]; exact T2.out⟩
                      case measure => simp [intOf]; omega
                    · obtain rfl : k = s[i].toNat - 124 := by omega
                      have k1 : ((s[i].toNat - 124 : Nat) : Int) = (s[i].toNat : Int) - 124 := by omega
                      clear hcell
                      go_wp2
                      go_roundw
                      case rel => exact ⟨i + 2, X, by omega, by go_num, by have := HXL.out; omega, TX.out, by rw [← HX.out]; exact HD2.out⟩
                      case measure => simp [intOf]; omega
          · have d1 : decide ((s.size : Int) ≤ (i : Int) + 1) = true := by simp; omega
            have HN := Lib.hid (HD.out.symm.trans (dec_bad (s := s.data.toList) (out := out) (i := i) (Nat.lt_of_lt_of_eq hlt HLL.out.symm) HNB.out (.inr (.inl (by rw [HLL.out]; omega)))))
            clear hb1
            go_wp2_with (first
              | (go_at_call 41; refine (specIn_no _ _ _ _ hnb).mono ?_; rintro e w1 ⟨rfl, rfl⟩))
            go_ret2
            exact ⟨ret_exp (a := ⟨#[]⟩) (by rw [(exp_none HN.out).1]) (exp_none HN.out).2.symm, TT.out.below⟩
    · obtain rfl : i = s.size := by omega
      have HEND := Lib.hid (HD.out.symm.trans (dec_end (s := s.data.toList) (out := out) (i := s.size) (by rw [HLL.out]; omega)))
      obtain ⟨n, c2, a2, hv, hcv⟩ := brow_conv t
      cases hv
      obtain ⟨O, hO⟩ : ∃ O : ByteArray, (⟨out.toArray⟩ : ByteArray) = O := ⟨_, rfl⟩
      rw [hO] at hcv
      have HOD := Lib.hid (show O.data.toList = out by rw [← hO])
      clear t
      go_wp2_with fail
      refine (specCompress O _).mono ?_
      rw [HOD.out]
      obtain ⟨C, hC⟩ : ∃ C : ByteArray, (⟨(compress out).toArray⟩ : ByteArray) = C := ⟨_, rfl⟩
      have HCD := Lib.hid (show C.data.toList = compress out by rw [← hC])
      unfold PackOut
      rw [hC]
      rintro e w1 ⟨rfl, hb1⟩
      have HB1 := Lib.hid (TT.out.below.trans (hb1.mono TT.out.below.size))
      have T1 := Lib.hid (TT.out.later hb1)
      clear hb1
      have hcv1 := T1.out.str2
      rw [hO] at hcv1
      clear hO hC
      by_cases hq : C = s
      · subst hq
        have hq1 := ne_false C
        have HY := Lib.hid (exp_yes HEND.out HCD.out.symm)
        go_wp2_with fail
        go_ret2
        exact ⟨ret_exp (bytes_ext (by rw [HOD.out, HY.out.1])) HY.out.2.symm, HB1.out⟩
      · have hq1 : (!C.toList == s.toList) = true := ne_true (fun h => hq (bytes_ext h))
        have HY := Lib.hid (exp_no HEND.out (fun h => hq (bytes_ext (HCD.out.trans h))))
        go_wp2_with fail
        go_ret2
        exact ⟨ret_exp (a := ⟨#[]⟩) (by rw [HY.out.1]) HY.out.2.symm, HB1.out⟩
end Go.Proofs.Ytgonnibakkabjab
