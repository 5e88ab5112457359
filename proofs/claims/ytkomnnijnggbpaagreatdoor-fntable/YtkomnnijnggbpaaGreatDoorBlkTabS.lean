/- The model's look at one entry of an index: the cells of its block, and the place behind. -/
import Derived.Test.YtkomnnijnggbpaaGreatDoorZ2
import Derived.Test.YtkomnnijnggbpaaGreatDoorZ1
import Derived.Test.YtkomnnijnggbpaaGreatDoorZ7
import Derived.Test.YtkomnnijnggbpaaGreatDoorZ11
namespace Go.Proofs.YtkomnnijnggbpaaGreatDoor
open Go.RowKit
set_option linter.unusedVariables false

def TakeOut (w : World) (s I : List UInt8) (a : Nat) (every : Int) (e : Ending) (w' : World) : Prop :=
 ∃ v r nx, e = .returned (.tuple #[v, .int .i64 nx]) ∧ OwnC w.heap.size w' v r ∧ r.length ≤ 50 ∧ cellsOk r = true ∧ (nx = -1 ∨ (a : Int) < nx ∧ nx ≤ I.length) ∧ (∀ zs b, EntTold s I a every zs b → r = zs ∧ nx = b) ∧ Below w.heap.size w w'
theorem entry_no {w w' : World} {s I : List UInt8} {a : Nat} {every : Int} (hn : ∀ zs b, ¬ EntTold s I a every zs b) (hb : Below w.heap.size w w') : TakeOut w s I a every (.returned (.tuple #[.slice none 0 0, .int .i64 (-1)])) w' :=
 ⟨_, [], -1, rfl, World.ownsRow_nil _ _ _ _, by simp, rfl, .inl rfl, fun zs b h => absurd h (hn zs b), hb⟩
theorem text_part (s : ByteArray) (a n : Nat) : (s.extract a (a + n)).data.toList = (s.data.toList.drop a).take n := by
 simp only [ByteArray.data_extract, Array.toList_extract, List.extract_eq_take_drop]
 congr 1
 omega

set_option maxHeartbeats 2000000 in
set_option maxRecDepth 100000 in
theorem specTake (s I : ByteArray) (a : Nat) (every : Int) (hs : s.size ≤ 1048576) (hI : I.size ≤ 2000) (ha : a < I.size) (w : World) :
   Calls Tryz.prog 68 #[.string s, .string I, .int .i64 a, .int .i64 every] w (TakeOut w s.data.toList I.data.toList a every) := by
 have hIl : I.data.toList.length = I.size := by simp
 have hsl : s.data.toList.length = s.size := by simp
 have HIL := Lib.hid hIl
 have HSL := Lib.hid hsl
 have hIm : I.size ≤ maxLen := by unfold maxLen; omega
 clear hIl hsl
 cases hg1 : getVarAt I.data.toList (a : Int) with
 | none =>
   have HN := Lib.hid (show ∀ zs b, ¬ EntTold s.data.toList I.data.toList a every zs b from fun zs b h => by
     obtain ⟨g1, g2, g3, e1, _⟩ := told_reads h
     rw [hg1] at e1
     cases e1)
   have HG := Lib.hid (getVar1_none hg1)
   clear hg1
   go_enter Tryz.func68, Tryz.ntmps68
   go_wp2_with fail
   refine (specGetVar I (a : Int) _ hIm).mono ?_
   rintro e w1 ⟨rfl, b1⟩
   rw [HG.out.1, HG.out.2]
   have B1 := Lib.hid b1
   clear b1
   go_wp2
   go_ret2
   exact entry_no HN.out B1.out
 | some g1 =>
   obtain ⟨k1, k2, k3⟩ := get_pos hg1
   have HG := Lib.hid (getVar1_some hg1)
   have H1 := Lib.hid hg1
   rw [HIL.out] at k2
   obtain ⟨n, hn⟩ : ∃ n, varVal g1 = n := ⟨_, rfl⟩
   obtain ⟨q, hq⟩ : ∃ q, g1.length = q := ⟨_, rfl⟩
   rw [hn, hq] at HG
   rw [hn] at k3
   rw [hq] at k1 k2
   have HN1 := Lib.hid hn
   have HQ1 := Lib.hid hq
   clear hg1 hn hq
   by_cases hfar : I.size - (a + q) < n
   · have HN := Lib.hid (show ∀ zs b, ¬ EntTold s.data.toList I.data.toList a every zs b from fun zs b h => by
       obtain ⟨g1', g2, g3, e1, e2, _⟩ := told_reads h
       rw [H1.out] at e1
       cases e1
       rw [HN1.out, HQ1.out, HIL.out] at e2
       omega)
     have f1 : (I.size : Int) - ((a : Int) + (q : Int)) < (n : Int) := by omega
     have f0 : ¬ (a : Int) + (q : Int) < 0 := by omega
     go_enter Tryz.func68, Tryz.ntmps68
     go_wp2_with fail
     refine (specGetVar I (a : Int) _ hIm).mono ?_
     rintro e w1 ⟨rfl, b1⟩
     rw [HG.out.1, HG.out.2]
     have B1 := Lib.hid b1
     clear b1
     go_wp2
     go_ret2
     exact entry_no HN.out B1.out
   · have f1 : ¬ (I.size : Int) - ((a : Int) + (q : Int)) < (n : Int) := by omega
     have f0 : ¬ (a : Int) + (q : Int) < 0 := by omega
     obtain ⟨r, hr⟩ : ∃ r, a + q + n = r := ⟨_, rfl⟩
     have HRR := Lib.hid (show (a : Int) + (q : Int) + (n : Int) = (r : Int) by omega)
     have hrI : r ≤ I.size := by omega
     have HR1 := Lib.hid hr
     cases hg2 : getVarAt I.data.toList (r : Int) with
     | none =>
       have HN := Lib.hid (show ∀ zs b, ¬ EntTold s.data.toList I.data.toList a every zs b from fun zs b h => by
         obtain ⟨g1', g2, g3, e1, _, e2, _⟩ := told_reads h
         rw [H1.out] at e1
         cases e1
         rw [HN1.out, HQ1.out, HR1.out, hg2] at e2
         cases e2)
       have HG2 := Lib.hid (getVar1_none hg2)
       have HG3 := Lib.hid (getVar1_none (l := I.data.toList) (a := -1) (getVar_out (.inl (by omega))))
       clear hg2 hr
       go_enter Tryz.func68, Tryz.ntmps68
       go_wp2_with fail
       refine (specGetVar I (a : Int) _ hIm).mono ?_
       rintro e w1 ⟨rfl, b1⟩
       rw [HG.out.1, HG.out.2]
       have B1 := Lib.hid b1
       clear b1
       go_wp2_with fail
       rw [HRR.out]
       refine (specGetVar I (r : Int) _ hIm).mono ?_
       rintro e w2 ⟨rfl, b2⟩
       rw [HG2.out.1, HG2.out.2]
       have B2 := Lib.hid (B1.out.trans (b2.mono B1.out.size))
       clear b2
       go_wp2_with fail
       refine (specGetVar I (-1) _ hIm).mono ?_
       rintro e w3 ⟨rfl, b3⟩
       rw [HG3.out.1, HG3.out.2]
       have B3 := Lib.hid (B2.out.trans (b3.mono B2.out.size))
       clear b3
       go_wp2
       go_ret2
       exact entry_no HN.out B3.out
     | some g2 =>
       obtain ⟨k4, k5, k6⟩ := get_pos hg2
       have HG2 := Lib.hid (getVar1_some hg2)
       have H2 := Lib.hid hg2
       rw [HIL.out] at k5
       obtain ⟨f, hf⟩ : ∃ f, varVal g2 = f := ⟨_, rfl⟩
       obtain ⟨q2, hq2⟩ : ∃ q, g2.length = q := ⟨_, rfl⟩
       rw [hf, hq2] at HG2
       rw [hf] at k6
       rw [hq2] at k4 k5
       have HN2 := Lib.hid hf
       have HQ2 := Lib.hid hq2
       obtain ⟨r2, hr2⟩ : ∃ r2, r + q2 = r2 := ⟨_, rfl⟩
       have HRR2 := Lib.hid (show (r : Int) + (q2 : Int) = (r2 : Int) by omega)
       have HR2 := Lib.hid hr2
       clear hg2 hf hq2
       cases hg3 : getVarAt I.data.toList (r2 : Int) with
       | none =>
         have HN := Lib.hid (show ∀ zs b, ¬ EntTold s.data.toList I.data.toList a every zs b from fun zs b h => by
           obtain ⟨g1', g2', g3, e1, _, e2, e3, _⟩ := told_reads h
           rw [H1.out] at e1
           cases e1
           rw [HN1.out, HQ1.out, HR1.out, H2.out] at e2
           cases e2
           rw [HN1.out, HQ1.out, HR1.out, HQ2.out, HR2.out, hg3] at e3
           cases e3)
         have HG3 := Lib.hid (getVar1_none hg3)
         clear hg3 hr hr2
         go_enter Tryz.func68, Tryz.ntmps68
         go_wp2_with fail
         refine (specGetVar I (a : Int) _ hIm).mono ?_
         rintro e w1 ⟨rfl, b1⟩
         rw [HG.out.1, HG.out.2]
         have B1 := Lib.hid b1
         clear b1
         go_wp2_with fail
         rw [HRR.out]
         refine (specGetVar I (r : Int) _ hIm).mono ?_
         rintro e w2 ⟨rfl, b2⟩
         rw [HG2.out.1, HG2.out.2]
         have B2 := Lib.hid (B1.out.trans (b2.mono B1.out.size))
         clear b2
         go_wp2_with fail
         rw [HRR2.out]
         refine (specGetVar I (r2 : Int) _ hIm).mono ?_
         rintro e w3 ⟨rfl, b3⟩
         rw [HG3.out.1, HG3.out.2]
         have B3 := Lib.hid (B2.out.trans (b3.mono B2.out.size))
         clear b3
         go_wp2
         go_ret2
         exact entry_no HN.out B3.out
       | some g3 =>
         obtain ⟨k7, k8, k9⟩ := get_pos hg3
         have HG3 := Lib.hid (getVar1_some hg3)
         have H3 := Lib.hid hg3
         rw [HIL.out] at k8
         obtain ⟨z, hz⟩ : ∃ z, varVal g3 = z := ⟨_, rfl⟩
         obtain ⟨q3, hq3⟩ : ∃ q, g3.length = q := ⟨_, rfl⟩
         rw [hz, hq3] at HG3
         rw [hz] at k9
         rw [hq3] at k7 k8
         have HN3 := Lib.hid hz
         have HQ3 := Lib.hid hq3
         have HTR := Lib.hid (show ∀ zs b, EntTold s.data.toList I.data.toList a every zs b → f + z ≤ s.size ∧ unwrapB ((s.data.toList.drop f).take z) = (putBlock zs every, 0) ∧ Got (putBlock zs every) every zs true ∧ b = r2 + q3 from fun zs b h => by
           obtain ⟨g1', g2', g3', e1, _, e2, e3, e4, e5, e6, e7⟩ := told_reads h
           rw [H1.out] at e1
           cases e1
           rw [HN1.out, HQ1.out, HR1.out, H2.out] at e2
           cases e2
           rw [HN1.out, HQ1.out, HR1.out, HQ2.out, HR2.out, H3.out] at e3
           cases e3
           rw [HN2.out, HN3.out] at e4 e5
           rw [HN1.out, HQ1.out, HR1.out, HQ2.out, HR2.out, HQ3.out] at e7
           rw [HSL.out] at e4
           exact ⟨e4, e5, e6, e7⟩)
         clear hg3 hz hq3 hr hr2
         by_cases hbad : s.size < f + z
         · have HN := Lib.hid (show ∀ zs b, ¬ EntTold s.data.toList I.data.toList a every zs b from fun zs b h => by
             have := (HTR.out zs b h).1
             omega)
           by_cases hff : s.size < f
           · have f2 : (s.size : Int) < (f : Int) := by omega
             clear hbad
             go_enter Tryz.func68, Tryz.ntmps68
             go_wp2_with fail
             refine (specGetVar I (a : Int) _ hIm).mono ?_
             rintro e w1 ⟨rfl, b1⟩
             rw [HG.out.1, HG.out.2]
             have B1 := Lib.hid b1
             clear b1
             go_wp2_with fail
             rw [HRR.out]
             refine (specGetVar I (r : Int) _ hIm).mono ?_
             rintro e w2 ⟨rfl, b2⟩
             rw [HG2.out.1, HG2.out.2]
             have B2 := Lib.hid (B1.out.trans (b2.mono B1.out.size))
             clear b2
             go_wp2_with fail
             rw [HRR2.out]
             refine (specGetVar I (r2 : Int) _ hIm).mono ?_
             rintro e w3 ⟨rfl, b3⟩
             rw [HG3.out.1, HG3.out.2]
             have B3 := Lib.hid (B2.out.trans (b3.mono B2.out.size))
             clear b3
             go_wp2
             go_ret2
             exact entry_no HN.out B3.out
           · have f2 : ¬ (s.size : Int) < (f : Int) := by omega
             have f3 : (s.size : Int) - (f : Int) < (z : Int) := by omega
             clear hbad
             go_enter Tryz.func68, Tryz.ntmps68
             go_wp2_with fail
             refine (specGetVar I (a : Int) _ hIm).mono ?_
             rintro e w1 ⟨rfl, b1⟩
             rw [HG.out.1, HG.out.2]
             have B1 := Lib.hid b1
             clear b1
             go_wp2_with fail
             rw [HRR.out]
             refine (specGetVar I (r : Int) _ hIm).mono ?_
             rintro e w2 ⟨rfl, b2⟩
             rw [HG2.out.1, HG2.out.2]
             have B2 := Lib.hid (B1.out.trans (b2.mono B1.out.size))
             clear b2
             go_wp2_with fail
             rw [HRR2.out]
             refine (specGetVar I (r2 : Int) _ hIm).mono ?_
             rintro e w3 ⟨rfl, b3⟩
             rw [HG3.out.1, HG3.out.2]
             have B3 := Lib.hid (B2.out.trans (b3.mono B2.out.size))
             clear b3
             go_wp2
             go_ret2
             exact entry_no HN.out B3.out
         · have f2 : ¬ (s.size : Int) < (f : Int) := by omega
           have f3 : ¬ (s.size : Int) - (f : Int) < (z : Int) := by omega
           have hfz : f + z ≤ s.size := by omega
           have j1 : (0 : Int) ≤ (f : Int) := by omega
           have j2 : (f : Int) ≤ (f : Int) + (z : Int) := by omega
           have j3 : (f : Int) + (z : Int) ≤ (s.size : Int) := by omega
           obtain ⟨X, hX⟩ : ∃ X, s.extract f (f + z) = X := ⟨_, rfl⟩
           have HXX := Lib.hid hX
           have hXl : X.data.toList = (s.data.toList.drop f).take z := by rw [← hX]; exact part_text s f z
           have hXs : X.size ≤ 1048576 := by rw [← hX, ByteArray.size_extract]; omega
           obtain ⟨u, hu⟩ : ∃ u, unwrapB X.data.toList = u := ⟨_, rfl⟩
           obtain ⟨ub, uk⟩ := u
           obtain ⟨A, hA, hAl⟩ := text_of ub
           have HUA := Lib.hid (show (A.data.toList, uk) = unwrapB X.data.toList by rw [hu, hA])
           have HUB := Lib.hid (show ∀ zs b, EntTold s.data.toList I.data.toList a every zs b → uk = 0 ∧ A.data.toList = putBlock zs every from fun zs b h => by
             have e5 := (HTR.out zs b h).2.1
             rw [← hXl, hu] at e5
             exact ⟨(Prod.mk.inj e5).2, by rw [hA]; exact (Prod.mk.inj e5).1⟩)
           have hAs : A.size ≤ 1048576 := by
             have h1 := (unwrap_most X.data.toList).1
             rw [hu] at h1
             rw [hAl]
             have h2 : ub.length ≤ 2000 := h1
             omega
           clear hX hXl hu hA hAl hbad
           go_enter Tryz.func68, Tryz.ntmps68
           go_wp2_with fail
           refine (specGetVar I (a : Int) _ hIm).mono ?_
           rintro e w1 ⟨rfl, b1⟩
           rw [HG.out.1, HG.out.2]
           have B1 := Lib.hid b1
           clear b1
           go_wp2_with fail
           rw [HRR.out]
           refine (specGetVar I (r : Int) _ hIm).mono ?_
           rintro e w2 ⟨rfl, b2⟩
           rw [HG2.out.1, HG2.out.2]
           have B2 := Lib.hid (B1.out.trans (b2.mono B1.out.size))
           clear b2
           go_wp2_with fail
           rw [HRR2.out]
           refine (specGetVar I (r2 : Int) _ hIm).mono ?_
           rintro e w3 ⟨rfl, b3⟩
           rw [HG3.out.1, HG3.out.2]
           have B3 := Lib.hid (B2.out.trans (b3.mono B2.out.size))
           clear b3
           go_wp2_with fail
           rw [HXX.out]
           refine (specUnwrap X A uk hXs HUA.out _).mono ?_
           rintro e w4 ⟨rfl, b4⟩
           have B4 := Lib.hid (B3.out.trans (b4.mono B3.out.size))
           clear b4
           go_wp2_with fail
           refine (specGetBlock A every hAs _).mono ?_
           rintro e w5 ⟨v, r5, ok, rfl, hgot, o5, b5⟩
           have B5 := Lib.hid (B4.out.trans (b5.mono B4.out.size))
           have O5 := Lib.hid (own_base o5 (by have := B4.out.size; exact this))
           have HGT := Lib.hid hgot
           clear b5 o5 hgot
           by_cases huk : uk = 0
           · subst huk
             cases ok
             · have HN := Lib.hid (show ∀ zs b, ¬ EntTold s.data.toList I.data.toList a every zs b from fun zs b h => by
                 have h1 := HGT.out
                 rw [(HUB.out zs b h).2] at h1
                 have := (got_one h1 (HTR.out zs b h).2.2.1).2
                 cases this)
               go_wp2
               go_ret2
               exact entry_no HN.out B5.out
             · go_wp2
               go_ret2
               refine ⟨v, r5, _, rfl, O5.out, (got_few HGT.out).1, (got_few HGT.out).2, .inr ⟨by have := HR1.out; have := HR2.out; omega, by rw [HIL.out]; omega⟩, fun zs b h => ?_, B5.out⟩
               have h1 := HGT.out
               rw [(HUB.out zs b h).2] at h1
               exact ⟨(got_one h1 (HTR.out zs b h).2.2.1).1, by rw [(HTR.out zs b h).2.2.2]; omega⟩
           · have HN := Lib.hid (show ∀ zs b, ¬ EntTold s.data.toList I.data.toList a every zs b from fun zs b h => huk (HUB.out zs b h).1)
             have hz : ¬ (uk : Int) = 0 := by omega
             clear huk
             go_wp2
             go_ret2
             exact entry_no HN.out B5.out
end Go.Proofs.YtkomnnijnggbpaaGreatDoor
