/- The model's look at one record of a log. -/
import Derived.Test.YtjcgbpjgoacdjaaZ1
import Derived.Test.YtjcgbpjgoacdjaaZ0
import Derived.Test.YtjcgbpjgoacdjaaGetFix
import Derived.Deep.CutRange
namespace Go.Proofs.Ytjcgbpjgoacdjaa
open Go.RowKit
set_option linter.unusedVariables false

def RecOut (w : World) (s : List UInt8) (at_ : Nat) (e : Ending) (w' : World) : Prop :=
 ∃ (T : ByteArray) (nx : Int), e = .returned (.tuple #[.string T, .int .i64 nx]) ∧ (nx = -1 ∨ ((at_ : Int) + 7 ≤ nx ∧ nx ≤ s.length ∧ T.size ≤ 400)) ∧ (∀ r y, r.length ≤ 300 → s.drop at_ = putRec at_ true r ++ y → T.data.toList = r ∧ nx = ((at_ + (putRec at_ true r).length : Nat) : Int)) ∧ Below w.heap.size w w'
theorem part_text (s : ByteArray) (a n : Nat) : (s.extract a (a + n)).data.toList = (s.data.toList.drop a).take n := by
 simp only [ByteArray.data_extract, Array.toList_extract, List.extract_eq_take_drop]
 rw [show a + n - a = n by omega]
theorem getFix_there {l : List UInt8} {a b : Nat} (h1 : 1 ≤ b) (h4 : b ≤ 4) (h : a + b ≤ l.length) : ∃ m : Nat, getFix l a b = (m : Int) ∧ m < 2 ^ (8 * b) := by
 refine ⟨_, getFix_yes h1 h4 h, ?_⟩
 have h2 := fixVal_lt ((l.drop a).take b)
 have h3 : ((l.drop a).take b).length = b := by rw [List.length_take, List.length_drop]; omega
 rwa [h3] at h2
set_option maxHeartbeats 4000000 in
set_option maxRecDepth 100000 in
theorem specRecord (s : ByteArray) (at_ : Nat) (hs : s.size ≤ 1048576) (ha : at_ ≤ s.size) (w : World) :
   Calls Try.prog 50 #[.string s, .int .i64 at_] w (RecOut w s.data.toList at_) := by
 have hsl : s.data.toList.length = s.size := by simp
 have HSL := Lib.hid hsl
 have hsm : s.size ≤ maxLen := by unfold maxLen; omega
 clear hsl
 go_enter Try.func50, Try.ntmps50
 go_wp2_with fail
 go_loopw [1, 6] (fun v1 v6 wr => ∃ (p : Nat) (T : ByteArray), v1 = .int .i64 p ∧ v6 = .string T ∧ at_ ≤ p ∧ p ≤ s.size ∧ T.size ≤ 400 ∧ Hid (Reading1 s.data.toList at_ p T.data.toList ∧ Below w.heap.size w wr)) (fun v1 _ _ => s.size - (intOf v1).toNat)
 case atStart => exact ⟨at_, ⟨#[]⟩, rfl, rfl, Nat.le_refl _, ha, Nat.zero_le _, reading_start _ _, Below.refl _ _⟩
 case round =>
   obtain ⟨p, T, rfl, rfl, hp1, hp2, hT4, HX⟩ := hrel
   obtain ⟨lf, hlf⟩ : ∃ x, leftAt p = x := ⟨_, rfl⟩
   have hlf1 : 1 ≤ lf ∧ lf ≤ 64 := by rw [← hlf]; unfold leftAt; omega
   have hli : (64 : Int) - (p : Int) % 64 = (lf : Int) := by rw [← hlf]; unfold leftAt; omega
   obtain ⟨q, hq⟩ : ∃ x, p + padAt p = x := ⟨_, rfl⟩
   have hpd := pad_le p
   have hq2 : q = p + (if lf < 7 then lf else 0) := by rw [← hq, ← hlf]; rfl
   have HQ := Lib.hid hq
   clear hq hlf
   go_upto_if 16 with fail
   go_cut [1] from 17 to 19 (fun v1 wx => v1 = .int .i64 q ∧ wx = wr)
   case first =>
     by_cases h7 : lf < 7
     · have h7i : (lf : Int) < 7 := by omega
       rw [if_pos h7] at hq2
       go_wp2_with fail
       go_meet
       case rel => exact ⟨by congr 1; omega, rfl⟩
     · have h7i : ¬ (lf : Int) < 7 := by omega
       rw [if_neg h7] at hq2
       go_wp2_with fail
       go_meet
       case rel => exact ⟨by congr 1; omega, rfl⟩
   case rest =>
     obtain ⟨rfl, rfl⟩ := hcut
     have hqb : q ≤ p + 6 := by split at hq2 <;> omega
     have hqp : p ≤ q := by omega
     clear hq2 hli hlf1
     have HFR := Lib.hid (fun r y hr h => reading_frag HX.out.1 (r := r) (y := y) hr h)
     rw [HQ.out] at HFR
     obtain ⟨sz, hsz⟩ : ∃ x, getFix s.data.toList ((q + 4 : Nat) : Int) 2 = x := ⟨_, rfl⟩
     obtain ⟨kd, hkd⟩ : ∃ x, getFix s.data.toList ((q + 6 : Nat) : Int) 1 = x := ⟨_, rfl⟩
     have HSZ := Lib.hid hsz
     have HKD := Lib.hid hkd
     -- what is told where a record is there
     have HTO := Lib.hid (show ∀ k t z, 1 ≤ k → k ≤ 4 → t.length ≤ 57 → s.data.toList.drop q = fragB k t ++ z → kd = (k : Int) ∧ sz = (t.length : Int) ∧ q + 7 + t.length ≤ s.size ∧ (s.data.toList.drop (q + 7)).take t.length = t ∧ (s.data.toList.drop q).take (t.length + 7) = fragB k t from fun k t z g1 g2 g3 g4 => by
       obtain ⟨f1, f2, f3, f4, f5, _⟩ := frag_reads g4 (by omega) g3
       rw [hsz] at f2
       rw [hkd] at f3
       rw [HSL.out] at f1
       exact ⟨f3, f2, f1, f4, f5⟩)
     have E4 := Lib.hid (show (q : Int) + 4 = ((q + 4 : Nat) : Int) by omega)
     have E6 := Lib.hid (show (q : Int) + 6 = ((q + 6 : Nat) : Int) by omega)
     have hkcase : kd = -1 ∨ ∃ k m : Nat, kd = (k : Int) ∧ k < 256 ∧ sz = (m : Int) ∧ m < 65536 := by
       by_cases hin : q + 7 ≤ s.size
       · obtain ⟨k, h1, h2⟩ := getFix_there (l := s.data.toList) (a := q + 6) (b := 1) (by omega) (by omega) (by rw [HSL.out]; omega)
         obtain ⟨m, h3, h4⟩ := getFix_there (l := s.data.toList) (a := q + 4) (b := 2) (by omega) (by omega) (by rw [HSL.out]; omega)
         exact .inr ⟨k, m, by rw [← hkd]; exact h1, by omega, by rw [← hsz]; exact h3, by omega⟩
       · exact .inl (by rw [← hkd]; exact getFix_no (by rw [HSL.out]; omega))
     clear hsz hkd
     go_wp2_with fail
     rw [E4.out]
     refine (specGetFix s ((q + 4 : Nat) : Int) 2 _ hsm (by omega)).mono ?_
     rw [HSZ.out]
     rintro e w2 ⟨rfl, b2⟩
     have B2 := Lib.hid (HX.out.2.trans (b2.mono HX.out.2.size))
     clear b2
     go_wp2_with fail
     rw [E6.out]
     refine (specGetFix s ((q + 6 : Nat) : Int) 1 _ hsm (by omega)).mono ?_
     rw [HKD.out]
     rintro e w3 ⟨rfl, b3⟩
     have B3 := Lib.hid (B2.out.trans (b3.mono B2.out.size))
     clear b3
     rcases hkcase with rfl | ⟨k, m, rfl, hk, rfl, hm⟩
     · have hno : ∀ r y, r.length ≤ 300 → s.data.toList.drop at_ = putRec at_ true r ++ y → (⟨#[]⟩ : ByteArray).data.toList = r ∧ (-1 : Int) = ((at_ + (putRec at_ true r).length : Nat) : Int) := fun r y hr h => by
         obtain ⟨k, t, z, g1, g2, g3, _, g4, _⟩ := HFR.out r y hr h
         have := (HTO.out k t z g1 g2 g3 g4).1
         omega
       have HNO := Lib.hid hno
       clear hno
       go_wp2
       go_ret2
       exact ⟨⟨#[]⟩, -1, rfl, .inl rfl, HNO.out, B3.out⟩
     · by_cases c2 : (m : Int) ≤ (s.size : Int) - (q : Int) - 7
       · by_cases c3 : m ≤ 64
         · by_cases c4 : T.size ≤ 300
           · have c1i : ¬ (k : Int) < 0 := by omega
             have c2i : ¬ (s.size : Int) - (q : Int) - 7 < (m : Int) := by omega
             have c3i : ¬ (64 : Int) < (m : Int) := by omega
             have c4i : ¬ (300 : Int) < (T.size : Int) := by omega
             have j1 : (0 : Int) ≤ (q : Int) + 7 := by omega
             have j2 : (q : Int) + 7 ≤ (q : Int) + 7 + (m : Int) := by omega
             have j3 : (q : Int) + 7 + (m : Int) ≤ (s.size : Int) := by omega
             obtain ⟨B, hB⟩ : ∃ B, s.extract (q + 7) (q + 7 + m) = B := ⟨_, rfl⟩
             have hBd : B.data.toList = (s.data.toList.drop (q + 7)).take m := by rw [← hB]; exact part_text s (q + 7) m
             have hBs : B.size = m := by rw [← hB, ByteArray.size_extract]; omega
             have HB := Lib.hid hB
             have HBD := Lib.hid hBd
             have hBl : B.data.toList.length = m := by rw [← hBs]; simp
             have HF := Lib.hid (show ∀ k' t' z, 1 ≤ k' → k' ≤ 4 → t'.length ≤ 57 → s.data.toList.drop q = fragB k' t' ++ z → k' = k ∧ t' = B.data.toList from fun k' t' z g1 g2 g3 g4 => by
               obtain ⟨h1, h2, _, h4, _⟩ := HTO.out k' t' z g1 g2 g3 g4
               refine ⟨by omega, ?_⟩
               rw [hBd, show m = t'.length by omega, h4])
             clear hB hBd
             by_cases hfk : 1 ≤ k ∧ k ≤ 4 ∧ m ≤ 57
             · obtain ⟨cb, hcb⟩ : ∃ b, ((s.extract q (q + (m + 7))).toList == fragB k B.data.toList) = b := ⟨_, rfl⟩
               have HCB := Lib.hid (show cb = true ↔ (s.data.toList.drop q).take (m + 7) = fragB k B.data.toList by
                 rw [← hcb, beq_iff_eq, ByteArray.toList_eq, part_text])
               go_wp2_with fail
               try rw [HB.out]
               refine (specFragment (k : Int) B (by omega) (by omega) _).mono ?_
               rw [fragment_yes hfk.1 hfk.2.1 (by omega)]
               intro e w4 h4
               obtain ⟨F, hF, hFs, rfl, b4⟩ := h4.text
               rw [frag_len, hBl] at hFs
               have hFn : F.toList.isEmpty = false := by
                 have h2 : F.data.toList.length = F.size := by simp
                 rw [ByteArray.toList_eq]
                 cases hc : F.data.toList with
                 | nil =>
                   rw [hc, List.length_nil] at h2
                   omega
                 | cons _ _ => rfl
               have hcmp : ((s.extract q (q + (m + 7))).toList == F.toList) = cb := by
                 rw [← hcb]
                 congr 1
                 rw [ByteArray.toList_eq, hF]
               have B4 := Lib.hid (B3.out.trans (b4.mono B3.out.size))
               have i1 : (0 : Int) ≤ (q : Int) := by omega
               have i2 : (q : Int) ≤ (q : Int) + ((m : Int) + 7) := by omega
               have i3 : (q : Int) + ((m : Int) + 7) ≤ (s.size : Int) := by omega
               have hw1 : IntKind.i64.wrap ((q : Int) + ((m : Int) + 7)) = (q : Int) + ((m : Int) + 7) := IntWalk.i64_in _ (by omega)
               clear h4 hF b4 hcb
               cases cb
               · have HNO := Lib.hid (show ∀ r y, r.length ≤ 300 → s.data.toList.drop at_ = putRec at_ true r ++ y → (⟨#[]⟩ : ByteArray).data.toList = r ∧ (-1 : Int) = ((at_ + (putRec at_ true r).length : Nat) : Int) from fun r y hr h => by
                   obtain ⟨k', t, z, g1, g2, g3, _, g4, _⟩ := HFR.out r y hr h
                   obtain ⟨h1, h2⟩ := HF.out k' t z g1 g2 g3 g4
                   have h3 := (HTO.out k' t z g1 g2 g3 g4).2.2.2.2
                   rw [h1, h2, hBl] at h3
                   have := HCB.out.2 h3
                   cases this)
                 go_wp2
                 go_ret2
                 exact ⟨⟨#[]⟩, -1, rfl, .inl rfl, HNO.out, B4.out⟩
               · obtain ⟨TB, hTB⟩ : ∃ X, T ++ B = X := ⟨_, rfl⟩
                 have hTBs : TB.size = T.size + m := by rw [← hTB, ByteArray.size_append, hBs]
                 have hTBd : TB.data.toList = T.data.toList ++ B.data.toList := by rw [← hTB, ByteArray.data_append, Array.toList_append]
                 have HTB := Lib.hid hTB
                 have q1 : ¬ 9223372036854775807 < T.size + B.size := by omega
                 have q2 : ¬ 9223372036854775807 < T.size + m := by omega
                 by_cases hend : k = 1 ∨ k = 4
                 · have HYES := Lib.hid (show ∀ r y, r.length ≤ 300 → s.data.toList.drop at_ = putRec at_ true r ++ y → TB.data.toList = r ∧ ((q + 7 + m : Nat) : Int) = ((at_ + (putRec at_ true r).length : Nat) : Int) from fun r y hr h => by
                     obtain ⟨k', t, z, g1, g2, g3, _, g4, g5⟩ := HFR.out r y hr h
                     obtain ⟨h1, h2⟩ := HF.out k' t z g1 g2 g3 g4
                     rcases g5 with ⟨_, h3, h4⟩ | ⟨h3, _⟩
                     · refine ⟨by rw [hTBd, h3, h2], ?_⟩
                       rw [h4, h2, hBl]
                     · omega)
                   clear hTB hTBd
                   rcases hend with rfl | rfl
                   · go_wp2_with fail
                     try rw [HTB.out]
                     go_ret2
                     exact ⟨TB, ((q + 7 + m : Nat) : Int), by first | rfl | (rw [HTB.out]; rfl) | (simp; omega), .inr ⟨by omega, by rw [HSL.out]; omega, by omega⟩, HYES.out, B4.out⟩
                   · go_wp2_with fail
                     try rw [HTB.out]
                     go_ret2
                     exact ⟨TB, ((q + 7 + m : Nat) : Int), by first | rfl | (rw [HTB.out]; rfl) | (simp; omega), .inr ⟨by omega, by rw [HSL.out]; omega, by omega⟩, HYES.out, B4.out⟩
                 · have hk1 : ¬ (k : Int) = 1 := by omega
                   have hk4 : ¬ (k : Int) = 4 := by omega
                   have hb1 : ((k : Int) == 1) = false := beq_eq_false_iff_ne.2 hk1
                   have hb4 : ((k : Int) == 4) = false := beq_eq_false_iff_ne.2 hk4
                   have HST := Lib.hid (show Reading1 s.data.toList at_ (q + 7 + m) TB.data.toList by
                     have h1 := reading_step HX.out.1 (k := k) (t := B.data.toList) (by omega) (by rw [HQ.out]; exact HF.out)
                     rw [HQ.out, hBl, ← hTBd] at h1
                     exact h1)
                   clear hTB hTBd
                   go_wp2
                   go_roundw
                   case rel =>
                     exact ⟨q + 7 + m, TB, by go_num, by first | rfl | rw [HTB.out], by omega, by omega, by omega, HST.out, B4.out⟩
                   case measure => simp [intOf]; omega
             · have HNO := Lib.hid (show ∀ r y, r.length ≤ 300 → s.data.toList.drop at_ = putRec at_ true r ++ y → (⟨#[]⟩ : ByteArray).data.toList = r ∧ (-1 : Int) = ((at_ + (putRec at_ true r).length : Nat) : Int) from fun r y hr h => by
                 obtain ⟨k', t, z, g1, g2, g3, _, g4, _⟩ := HFR.out r y hr h
                 have h1 := HTO.out k' t z g1 g2 g3 g4
                 exfalso
                 omega)
               go_wp2_with fail
               try rw [HB.out]
               refine (specFragment (k : Int) B (by omega) (by omega) _).mono ?_
               rw [fragment_no (by omega)]
               intro e w4 h4
               obtain ⟨F, hF, hFs, rfl, b4⟩ := h4.text
               obtain rfl : F = ⟨#[]⟩ := bytes_ext hF
               have B4 := Lib.hid (B3.out.trans (b4.mono B3.out.size))
               clear h4 hF hFs b4
               go_wp2
               go_ret2
               exact ⟨⟨#[]⟩, -1, rfl, .inl rfl, HNO.out, B4.out⟩
           · have c1i : ¬ (k : Int) < 0 := by omega
             have c2i : ¬ (s.size : Int) - (q : Int) - 7 < (m : Int) := by omega
             have c3i : ¬ (64 : Int) < (m : Int) := by omega
             have c4i : (300 : Int) < (T.size : Int) := by omega
             have HNO := Lib.hid (show ∀ r y, r.length ≤ 300 → s.data.toList.drop at_ = putRec at_ true r ++ y → (⟨#[]⟩ : ByteArray).data.toList = r ∧ (-1 : Int) = ((at_ + (putRec at_ true r).length : Nat) : Int) from fun r y hr h => by
               obtain ⟨k', t, z, g1, g2, g3, g6, g4, _⟩ := HFR.out r y hr h
               have h2 : T.data.toList.length = T.size := by simp
               exfalso
               omega)
             go_wp2
             go_ret2
             exact ⟨⟨#[]⟩, -1, rfl, .inl rfl, HNO.out, B3.out⟩
         · have c1i : ¬ (k : Int) < 0 := by omega
           have c2i : ¬ (s.size : Int) - (q : Int) - 7 < (m : Int) := by omega
           have c3i : (64 : Int) < (m : Int) := by omega
           have HNO := Lib.hid (show ∀ r y, r.length ≤ 300 → s.data.toList.drop at_ = putRec at_ true r ++ y → (⟨#[]⟩ : ByteArray).data.toList = r ∧ (-1 : Int) = ((at_ + (putRec at_ true r).length : Nat) : Int) from fun r y hr h => by
             obtain ⟨k', t, z, g1, g2, g3, _, g4, _⟩ := HFR.out r y hr h
             have h1 := HTO.out k' t z g1 g2 g3 g4
             exfalso
             omega)
           go_wp2
           go_ret2
           exact ⟨⟨#[]⟩, -1, rfl, .inl rfl, HNO.out, B3.out⟩
       · have c1i : ¬ (k : Int) < 0 := by omega
         have c2i : (s.size : Int) - (q : Int) - 7 < (m : Int) := by omega
         have HNO := Lib.hid (show ∀ r y, r.length ≤ 300 → s.data.toList.drop at_ = putRec at_ true r ++ y → (⟨#[]⟩ : ByteArray).data.toList = r ∧ (-1 : Int) = ((at_ + (putRec at_ true r).length : Nat) : Int) from fun r y hr h => by
           obtain ⟨k', t, z, g1, g2, g3, _, g4, _⟩ := HFR.out r y hr h
           have h1 := HTO.out k' t z g1 g2 g3 g4
           exfalso
           omega)
         go_wp2
         go_ret2
         exact ⟨⟨#[]⟩, -1, rfl, .inl rfl, HNO.out, B3.out⟩
end Go.Proofs.Ytjcgbpjgoacdjaa
