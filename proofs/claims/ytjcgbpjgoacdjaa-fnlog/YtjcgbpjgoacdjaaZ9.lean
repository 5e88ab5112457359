/- The program's reading of fragments: one of them, and the iterator over those that follow one another. -/
import Derived.Test.YtjcgbpjgoacdjaaPartsOfI
import Derived.Test.YtjcgbpjgoacdjaaZ0
namespace Go.Proofs.Ytjcgbpjgoacdjaa
open Go.RowKit Go.Shelf
set_option linter.unusedVariables false
attribute [local go_sem] Oper.semAt_some

theorem cut_text (s : ByteArray) (a n : Nat) : (s.extract a (a + n)).data.toList = (s.data.toList.drop a).take n := by
 simp only [ByteArray.data_extract, Array.toList_extract, List.extract_eq_take_drop]
 rw [show a + n - a = n by omega]
theorem getFix_drop {l : List UInt8} {q a b : Nat} (h1 : 1 ≤ b) (h4 : b ≤ 4) (hq : q + a + b ≤ l.length) {m : Nat} (hm : a + b ≤ m) : getFix ((l.drop q).take m) a b = getFix l ((q + a : Nat) : Int) b := by
 rw [getFix_yes h1 h4 (by rw [List.length_take, List.length_drop]; omega), getFix_yes h1 h4 (by omega)]
 congr 2
 rw [List.drop_take, List.take_take, List.drop_drop]
 congr 1
 omega
theorem getFix_told {l : List UInt8} {a b : Nat} (h1 : 1 ≤ b) (h4 : b ≤ 4) (h : a + b ≤ l.length) : ∃ m : Nat, getFix l a b = (m : Int) ∧ m < 2 ^ (8 * b) := by
 refine ⟨_, getFix_yes h1 h4 h, ?_⟩
 have h2 := fixVal_lt ((l.drop a).take b)
 have h3 : ((l.drop a).take b).length = b := by rw [List.length_take, List.length_drop]; omega
 rwa [h3] at h2
def FragAt (s : ByteArray) (q k m : Nat) : Prop := getFix s.data.toList ((q + 4 : Nat) : Int) 2 = (m : Int) ∧ getFix s.data.toList ((q + 6 : Nat) : Int) 1 = (k : Int) ∧ q + 7 + m ≤ s.size ∧ k < 256
def FragOut (w : World) (p : Nat) (s : ByteArray) (q : Nat) (e : Ending) (w' : World) : Prop :=
 w.grownBy w' (some p) ∧ ((∃ k m : Nat, FragAt s q k m ∧ e = .returned (.tuple #[.int .i64 k, .string (s.extract (q + 7) (q + 7 + m)), .bool true]) ∧ RdAt w' p s (q + 7 + m : Nat)) ∨
   ((∀ k m, ¬ FragAt s q k m) ∧ ∃ (k : Int) (q' : Nat), q ≤ q' ∧ q' ≤ s.size + 6 ∧ e = .returned (.tuple #[.int .i64 k, .string ⟨#[]⟩, .bool false]) ∧ RdAt w' p s q'))
theorem grown_more {w w1 w2 : World} {row : Option Nat} (h : w.grownBy w1 row) (hb : Below w1.heap.size w1 w2) : w.grownBy w2 row :=
 ⟨hb.os.trans h.os, hb.tape.trans h.tape, hb.output.trans h.output, Nat.le_trans h.size hb.size, fun k hk hne => (hb.block k (by have := h.size; omega)).trans (h.block k hk hne)⟩
theorem rd_under {w w' : World} {p : Nat} {s : ByteArray} {a : Int} (h : RdAt w p s a) (hb : Below w.heap.size w w') : RdAt w' p s a := (hb.block _ h.lt).trans h
set_option maxHeartbeats 1000000 in
theorem takeFragment_at (p : Nat) (s : ByteArray) (q : Nat) (w : World) (h : RdAt w p s q) (hs : s.size ≤ 1000000000000000) (hq : q ≤ s.size + 6) :
   Calls Try.prog 84 #[.pointer (some ⟨p, 0, none⟩)] w (FragOut w p s q) := by
 have HH := Lib.hid h
 have HL := Lib.hid (show s.data.toList.length = s.size by simp)
 have hsm : s.size ≤ maxLen := by unfold maxLen; omega
 clear h
 by_cases h7 : q + 7 ≤ s.size
 · obtain ⟨k, hk1, hk2⟩ := getFix_told (l := s.data.toList) (a := q + 6) (b := 1) (by omega) (by omega) (by rw [HL.out]; omega)
   obtain ⟨m, hm1, hm2⟩ := getFix_told (l := s.data.toList) (a := q + 4) (b := 2) (by omega) (by omega) (by rw [HL.out]; omega)
   have hk2 : k < 256 := by omega
   have hm2 : m < 65536 := by omega
   obtain ⟨H, hH⟩ : ∃ H, s.extract q (q + 7) = H := ⟨_, rfl⟩
   have HHD := Lib.hid (show H.data.toList = (s.data.toList.drop q).take 7 by rw [← hH]; exact cut_text s q 7)
   have HG4 := Lib.hid (show getFix H.data.toList 4 2 = (m : Int) by
     rw [HHD.out, ← hm1]
     exact getFix_drop (a := 4) (b := 2) (by omega) (by omega) (by rw [HL.out]; omega) (by omega))
   have HG6 := Lib.hid (show getFix H.data.toList 6 1 = (k : Int) by
     rw [HHD.out, ← hk1]
     exact getFix_drop (a := 6) (b := 1) (by omega) (by omega) (by rw [HL.out]; omega) (by omega))
   have hHs : H.size ≤ maxLen := by
     unfold maxLen
     rw [← hH, ByteArray.size_extract]
     omega
   have HHE := Lib.hid hH
   have HKM := Lib.hid (show getFix s.data.toList ((q + 4 : Nat) : Int) 2 = (m : Int) ∧ getFix s.data.toList ((q + 6 : Nat) : Int) 1 = (k : Int) from And.intro hm1 hk1)
   clear hk1 hm1 hH
   go_enter Try.func84, Try.ntmps84
   go_wp2_with fail
   refine (take_yes p s q 7 _ HH.out hsm h7).mono ?_
   rintro e w1 ⟨rfl, r1, g1⟩
   have R1 := Lib.hid r1
   have G1 := Lib.hid g1
   clear r1 g1
   rw [HHE.out]
   go_wp2_with fail
   refine (implGetFix H 4 2 _ hHs).mono ?_
   rw [HG4.out]
   rintro e w2 ⟨rfl, b2⟩
   have R2 := Lib.hid (rd_under R1.out b2)
   have G2 := Lib.hid (grown_more G1.out b2)
   clear b2
   go_wp2_with fail
   refine (implGetFix H 6 1 _ hHs).mono ?_
   rw [HG6.out]
   rintro e w3 ⟨rfl, b3⟩
   have R3 := Lib.hid (rd_under R2.out b3)
   have G3 := Lib.hid (grown_more G2.out b3)
   clear b3
   by_cases hin : q + 7 + m ≤ s.size
   · go_wp2_with fail
     refine (take_yes p s (q + 7) m _ R3.out hsm hin).mono ?_
     rintro e w4 ⟨rfl, r4, g4⟩
     have R4 := Lib.hid r4
     have G4 := Lib.hid (G3.out.trans g4)
     clear r4 g4
     go_wp2
     go_ret3
     exact ⟨G4.out, .inl ⟨k, m, ⟨HKM.out.1, HKM.out.2, hin, hk2⟩, rfl, R4.out⟩⟩
   · go_wp2_with fail
     refine (take_no p s (q + 7 : Nat) m _ R3.out hsm (by omega)).mono ?_
     rintro e w4 ⟨rfl, nn, rfl⟩
     go_wp2
     go_ret3
     refine ⟨G3.out.trans (grown_drewN _ _ _), .inr ⟨fun k' m' hf => ?_, k, q + 7, by omega, by omega, rfl, R3.out.drewN _⟩⟩
     have h1 := hf.1
     rw [HKM.out.1] at h1
     have h2 := hf.2.2.1
     omega
 · have HNO := Lib.hid (show ∀ k m, ¬ FragAt s q k m from fun k m hf => by
     have h1 := hf.2.2.1
     omega)
   go_enter Try.func84, Try.ntmps84
   go_wp2_with fail
   refine (take_no p s q 7 _ HH.out hsm (by omega)).mono ?_
   rintro e w1 ⟨rfl, nn, rfl⟩
   have R1 := Lib.hid (HH.out.drewN nn)
   have G1 := Lib.hid (grown_drewN w nn (some p))
   go_wp2_with fail
   refine (implGetFix ⟨#[]⟩ 4 2 _ (by unfold maxLen; show (0 : Nat) ≤ _; omega)).mono ?_
   rw [show getFix (⟨#[]⟩ : ByteArray).data.toList 4 2 = -1 from getFix_no (by simp)]
   rintro e w2 ⟨rfl, b2⟩
   have R2 := Lib.hid (rd_under R1.out b2)
   have G2 := Lib.hid (grown_more G1.out b2)
   clear b2
   go_wp2_with fail
   refine (implGetFix ⟨#[]⟩ 6 1 _ (by unfold maxLen; show (0 : Nat) ≤ _; omega)).mono ?_
   rw [show getFix (⟨#[]⟩ : ByteArray).data.toList 6 1 = -1 from getFix_no (by simp)]
   rintro e w3 ⟨rfl, b3⟩
   have R3 := Lib.hid (rd_under R2.out b3)
   have G3 := Lib.hid (grown_more G2.out b3)
   clear b3
   go_wp2_with fail
   refine (take_no p s q (-1) _ R3.out hsm (by omega)).mono ?_
   rintro e w4 ⟨rfl, n4, rfl⟩
   go_wp2
   go_ret3
   exact ⟨G3.out.trans (grown_drewN _ _ _), .inr ⟨HNO.out, -1, q, Nat.le_refl _, hq, rfl, R3.out.drewN _⟩⟩
theorem fragments_at (n p : Nat) (w : World) :
   CallsIn Fence.wide n Try.prog 76 #[.pointer (some ⟨p, 0, none⟩)] w fun e w' => e = .returned (.func (.func 83) #[] #[.pointer (some ⟨w.heap.size, 0, none⟩)]) ∧
     w' = w.alloc (.cells #[.pointer (some ⟨p, 0, none⟩)] 83) := by
 refine callsIn_wide.2 ?_
 go_enter Try.func76, Try.ntmps76
 go_wp2
 go_ret
 exact ⟨rfl, rfl⟩
set_option maxRecDepth 100000 in
set_option maxHeartbeats 2000000 in
theorem fragments_in (n l Bc p : Nat) (s : ByteArray) (hs : s.size ≤ 1000000000000000) (J : Nat → World → Prop) (Je Jx : World → Prop)
   (hJ : ∀ q W, J q W → RdAt W p s q ∧ q ≤ s.size + 6 ∧ Boxed W Bc 83 (.pointer (some ⟨p, 0, none⟩)))
   (hY : ∀ q k m W W', J q W → W.grownBy W' (some p) → RdAt W' p s (q + 7 + m : Nat) → FragAt s q k m → YieldAt Fence.wide (n - 1) Try.prog l #[.int .i64 k, .string (s.extract (q + 7) (q + 7 + m))] W' fun e W2 =>
     (e = .returned (.bool true) ∧ J (q + 7 + m) W2) ∨ (e = .returned (.bool false) ∧ Jx W2))
   (hN : ∀ q q' W W', J q W → W.grownBy W' (some p) → q ≤ q' → q' ≤ s.size + 6 → RdAt W' p s (q' : Nat) → (∀ k m, ¬ FragAt s q k m) → Je W')
   (W : World) (q0 : Nat) (h0 : J q0 W) :
   CallsIn Fence.wide n Try.prog 83 #[.func (.yield l) #[] #[], .pointer (some ⟨Bc, 0, none⟩)] W fun e W' => (∃ v, e = .returned v) ∧ (Je W' ∨ Jx W') := by
 have HJ := Lib.hid hJ
 have HY := Lib.hid hY
 have HN := Lib.hid hN
 have H0 := Lib.hid h0
 clear hJ hY hN h0
 refine callsIn_of_wp Try.func83 rfl trivial ?_ rfl
 simp only [Try.ntmps83, List.size_toArray, List.length_cons, List.length_nil, Nat.reduceAdd, Nat.reduceSub, Array.replicate_succ, Array.replicate_zero, List.push_toArray, List.append_toArray, List.nil_append, List.cons_append]
 gi_wp2
 gi_loopw [] (fun wr => ∃ q : Nat, q ≤ s.size + 6 ∧ wr.cell? ⟨p, 1, none⟩ = some (.int .i64 q) ∧ Hid (J q wr)) (fun wr => match wr.cell? ⟨p, 1, none⟩ with | some (.int _ a) => s.size - a.toNat | _ => 0)
 case atStart => exact ⟨q0, (HJ.out _ _ H0.out).2.1, (HJ.out _ _ H0.out).1.cells.2.1, H0.out⟩
 case round =>
   obtain ⟨q, hq, hcq, HX⟩ := hrel
   have HCQ := Lib.hid hcq
   have cb := (HJ.out _ _ HX.out).2.2.cell
   clear hcq
   gi_wp2_with fail
   refine ⟨trivial, (fun h => by cases h), ?_⟩
   refine (callsIn_wide.2 (takeFragment_at p s q _ (HJ.out _ _ HX.out).1 hs hq)).mono ?_
   rintro e w1 ⟨hg, (⟨k, m, hf, rfl, hr⟩ | ⟨hno, k, q', hq1, hq2, rfl, hr⟩)⟩
   · obtain ⟨fn, tmps, assign, body, hy, hR⟩ := HY.out q k m _ _ HX.out hg hr hf
     have hin := hf.2.2.1
     clear cb hg hr hf
     gi_wp2_with fail
     refine ⟨(fun h => by cases h), hR.mono ?_⟩
     rintro e W3 (⟨rfl, hJ3⟩ | ⟨rfl, hJx3⟩)
     · have H3 := Lib.hid hJ3
       clear hJ3 hy hR
       gi_wp2
       go_roundw
       case rel => exact ⟨q + 7 + m, by omega, (HJ.out _ _ H3.out).1.cells.2.1, H3.out⟩
       case measure =>
         rw [HCQ.out, (HJ.out _ _ H3.out).1.cells.2.1]
         simp only [Int.toNat_natCast]
         omega
     · have H3 := Lib.hid hJx3
       clear hJx3 hy hR
       gi_wp2
       exact bodyPost_ret (results_none rfl _ _ _) rfl ⟨⟨_, rfl⟩, .inr H3.out⟩
   · have HE := Lib.hid (HN.out q q' _ _ HX.out hg hq1 hq2 hr hno)
     clear cb hg hr hno
     gi_wp2
     refine ⟨(fun f h => by cases h), ?_⟩
     gi_wp2
     exact bodyPost_ret (results_none rfl _ _ _) rfl ⟨⟨_, rfl⟩, .inl HE.out⟩
attribute [local go_sem] Oper.semAt_some

def Reading2 (s : List UInt8) (at_ q : Nat) (T : List UInt8) : Prop :=
 ∀ r y, r.length ≤ 300 → s.drop at_ = putRec at_ true r ++ y → ∃ p, q = p + padAt p ∧ Reading1 s at_ p T
theorem reading2_start (s : List UInt8) (at_ : Nat) : Reading2 s at_ (at_ + padAt at_) [] := fun r y _ _ => ⟨at_, rfl, reading_start s at_⟩
theorem reading2_frag {S : ByteArray} {at_ q : Nat} {T : List UInt8} (h : Reading2 S.data.toList at_ q T) {r y : List UInt8} (hr : r.length ≤ 300) (hs : S.data.toList.drop at_ = putRec at_ true r ++ y) :
   ∃ k t, FragAt S q k t.length ∧ 1 ≤ k ∧ k ≤ 4 ∧ T.length + t.length ≤ 300 ∧ (S.extract (q + 7) (q + 7 + t.length)).data.toList = t ∧
     (((k = 1 ∨ k = 4) ∧ r = T ++ t ∧ at_ + (putRec at_ true r).length = q + 7 + t.length) ∨ ((k = 2 ∨ k = 3) ∧ Reading2 S.data.toList at_ (q + 7 + t.length) (T ++ t))) := by
 have hl : S.data.toList.length = S.size := by simp
 obtain ⟨p, hq, h1⟩ := h r y hr hs
 obtain ⟨k, t, z, g1, g2, g3, g4, g5, g6⟩ := reading_frag h1 hr hs
 rw [← hq] at g5 g6
 obtain ⟨f1, f2, f3, f4, _, _⟩ := frag_reads g5 (by omega) g3
 refine ⟨k, t, ⟨f2, f3, by omega, by omega⟩, g1, g2, g4, by rw [cut_text]; exact f4, ?_⟩
 rcases g6 with ⟨a, b, c⟩ | ⟨a, r2, b, c, _, _⟩
 · exact .inl ⟨a, b, by rw [c]⟩
 · refine .inr ⟨a, fun r' y' hr' hs' => ?_⟩
   obtain ⟨p', hq', h1'⟩ := h r' y' hr' hs'
   obtain ⟨k', t', z', g1', g2', g3', g4', g5', g6'⟩ := reading_frag h1' hr' hs'
   rw [← hq'] at g5' g6'
   obtain ⟨e1, e2, _⟩ := frag_told (g5.symm.trans g5') (by omega) (by omega) (by omega) (by omega)
   rcases g6' with ⟨a', _⟩ | ⟨_, _, _, c', _, _⟩
   · omega
   · refine ⟨p' + padAt p' + 7 + t.length, ?_, reading_step h1' (k := k) (by omega) (fun k2 t2 z2 _ _ _ hd => ?_)⟩
     · rw [e2, c', (room_zero (piece_end p')).1, hq']
       rfl
     · rw [← hq'] at hd
       obtain ⟨e3, e4, _⟩ := frag_told (g5.symm.trans hd) (by omega) (by omega) (by omega) (by omega)
       exact ⟨e3.symm, e4.symm⟩
theorem frag_one {S : ByteArray} {q k m k' m' : Nat} (h : FragAt S q k m) (h' : FragAt S q k' m') : k = k' ∧ m = m' := by
 have h1 := h.1.symm.trans h'.1
 have h2 := h.2.1.symm.trans h'.2.1
 omega
def JoinOut (s : List UInt8) (at_ q : Nat) (T : ByteArray) (ok : Bool) : Prop :=
 (ok = true → T.size ≤ 300 ∧ q ≤ s.length) ∧ ∀ r y, r.length ≤ 300 → s.drop at_ = putRec at_ true r ++ y → ok = true ∧ T.data.toList = r ∧ q = at_ + (putRec at_ true r).length
theorem join_no {s : List UInt8} {at_ q : Nat} (h : ∀ r y, r.length ≤ 300 → s.drop at_ ≠ putRec at_ true r ++ y) : JoinOut s at_ q ⟨#[]⟩ false := ⟨(fun h => by cases h), fun r y hr hs => absurd hs (h r y hr)⟩
theorem join_step {S : ByteArray} {at_ q k m : Nat} {T P N : ByteArray} (h : Reading2 S.data.toList at_ q T.data.toList) (hf : FragAt S q k m) (hP : P = S.extract (q + 7) (q + 7 + m)) (hN : N = T ++ P) :
   (¬ (1 ≤ k ∧ k ≤ 4) → JoinOut S.data.toList at_ (q + 7 + m) ⟨#[]⟩ false) ∧ (300 < N.size → JoinOut S.data.toList at_ (q + 7 + m) ⟨#[]⟩ false) ∧
     (N.size ≤ 300 → (k = 1 ∨ k = 4) → JoinOut S.data.toList at_ (q + 7 + m) N true) ∧ ((k = 2 ∨ k = 3) → Reading2 S.data.toList at_ (q + 7 + m) N.data.toList) := by
 have hNd : N.data.toList = T.data.toList ++ P.data.toList := by rw [hN, ByteArray.data_append, Array.toList_append]
 have hNs : N.size = T.data.toList.length + P.data.toList.length := by
   rw [hN, ByteArray.size_append]
   simp
 have key : ∀ r y, r.length ≤ 300 → S.data.toList.drop at_ = putRec at_ true r ++ y → 1 ≤ k ∧ k ≤ 4 ∧ N.size ≤ 300 ∧
     (((k = 1 ∨ k = 4) ∧ r = N.data.toList ∧ at_ + (putRec at_ true r).length = q + 7 + m) ∨ ((k = 2 ∨ k = 3) ∧ Reading2 S.data.toList at_ (q + 7 + m) N.data.toList)) := fun r y hr hs => by
   obtain ⟨k', t, f, g1, g2, g3, g4, g5⟩ := reading2_frag h hr hs
   obtain ⟨rfl, rfl⟩ := frag_one hf f
   rw [← hP] at g4
   rw [hNd, hNs, g4]
   exact ⟨g1, g2, g3, g5⟩
 refine ⟨fun h1 => join_no (fun r y hr hs => ?_), fun h1 => join_no (fun r y hr hs => ?_), fun h1 h2 => ⟨fun _ => ⟨h1, by have := hf.2.2.1; have : S.data.toList.length = S.size := (by simp); omega⟩, fun r y hr hs => ?_⟩, fun h1 r y hr hs => ?_⟩
 · obtain ⟨a, b, _⟩ := key r y hr hs
   exact h1 ⟨a, b⟩
 · obtain ⟨_, _, c, _⟩ := key r y hr hs
   omega
 · obtain ⟨_, _, _, d⟩ := key r y hr hs
   rcases d with ⟨_, a, b⟩ | ⟨a, _⟩
   · exact ⟨rfl, a.symm, b.symm⟩
   · omega
 · obtain ⟨_, _, _, d⟩ := key r y hr hs
   rcases d with ⟨a, _⟩ | ⟨_, a⟩
   · omega
   · exact a r y hr hs
theorem join_end {S : ByteArray} {at_ q q' : Nat} {T : List UInt8} (h : Reading2 S.data.toList at_ q T) (hno : ∀ k m, ¬ FragAt S q k m) : JoinOut S.data.toList at_ q' ⟨#[]⟩ false := join_no (fun r y hr hs => by
 obtain ⟨k, t, f, _⟩ := reading2_frag h hr hs
 exact hno _ _ f)

structure JB (w : World) (p : Nat) (s : ByteArray) (r : Loop) (R : ByteArray) (ok : Bool) (T : ByteArray) (q : Nat) (X : World) : Prop where
 rd : RdAt X p s q
 r2 : Boxed X w.heap.size 9 (.string R)
 r3 : Boxed X (w.heap.size + 1) 4 (.bool ok)
 rc : Boxed X (w.heap.size + 1 + 1) 9 (.string T)
 bx : Boxed X (w.heap.size + 1 + 1 + 1) 83 (.pointer (some ⟨p, 0, none⟩))
 dfr : X.heap[w.heap.size + 1 + 1 + 1 + 1]? = some (.deferred (some []))
 loop : X.heap[w.heap.size + 1 + 1 + 1 + 1 + 1]? = some (.loop r)
 gr : w.grownBy X (some p)
 lt : p < w.heap.size
theorem grown_past {w X Y : World} {p t : Nat} (h : w.grownBy X (some p)) (hg : X.grownBy Y (some t)) (ht : t = p ∨ w.heap.size ≤ t) : w.grownBy Y (some p) :=
 ⟨hg.os.trans h.os, hg.tape.trans h.tape, hg.output.trans h.output, Nat.le_trans h.size hg.size, fun k hk hne => (hg.block k (by have := h.size; omega) (fun e => by cases e; rcases ht with ht | ht; (exact hne (by rw [ht])); omega)).trans (h.block k hk hne)⟩
section
variable {w : World} {p : Nat} {s : ByteArray} {r : Loop} {R : ByteArray} {ok : Bool} {T : ByteArray} {q : Nat} {X Y : World}
theorem JB.taken (h : JB w p s r R ok T q X) (hg : X.grownBy Y (some p)) {q' : Nat} (rd' : RdAt Y p s q') : JB w p s r R ok T q' Y := by
 have hp := h.lt
 exact ⟨rd', h.r2.kept hg (fun e => absurd (Option.some.inj e) (by omega)), h.r3.kept hg (fun e => absurd (Option.some.inj e) (by omega)), h.rc.kept hg (fun e => absurd (Option.some.inj e) (by omega)), h.bx.kept hg (fun e => absurd (Option.some.inj e) (by omega)),
   (hg.block _ (Array.getElem?_eq_some_iff.1 h.dfr).1 (fun e => absurd (Option.some.inj e) (by omega))).trans h.dfr, (hg.block _ (Array.getElem?_eq_some_iff.1 h.loop).1 (fun e => absurd (Option.some.inj e) (by omega))).trans h.loop, grown_past h.gr hg (.inl rfl), hp⟩
theorem JB.turn (h : JB w p s r R ok T q X) (r' : Loop) : JB w p s r' R ok T q (X.putObj (w.heap.size + 1 + 1 + 1 + 1 + 1) (.loop r')) := by
 have hp := h.lt
 have hg := grownBy_putObj' X (w.heap.size + 1 + 1 + 1 + 1 + 1) (.loop r')
 exact ⟨(hg.block _ h.rd.lt (fun e => absurd (Option.some.inj e) (by omega))).trans h.rd, h.r2.kept hg (fun e => absurd (Option.some.inj e) (by omega)), h.r3.kept hg (fun e => absurd (Option.some.inj e) (by omega)), h.rc.kept hg (fun e => absurd (Option.some.inj e) (by omega)), h.bx.kept hg (fun e => absurd (Option.some.inj e) (by omega)),
   (hg.block _ (Array.getElem?_eq_some_iff.1 h.dfr).1 (fun e => absurd (Option.some.inj e) (by omega))).trans h.dfr, World.putObj_heap_same (Array.getElem?_eq_some_iff.1 h.loop).1, grown_past h.gr hg (.inr (by omega)), hp⟩
theorem JB.setT (h : JB w p s r R ok T q X) (T' : ByteArray) : JB w p s r R ok T' q (X.setCell ⟨w.heap.size + 1 + 1, 0, none⟩ (.string T')) := by
 have hp := h.lt
 have hg := grownBy_setCell' X (w.heap.size + 1 + 1) (.string T')
 exact ⟨(hg.block _ h.rd.lt (fun e => absurd (Option.some.inj e) (by omega))).trans h.rd, h.r2.kept hg (fun e => absurd (Option.some.inj e) (by omega)), h.r3.kept hg (fun e => absurd (Option.some.inj e) (by omega)), h.rc.set _, h.bx.kept hg (fun e => absurd (Option.some.inj e) (by omega)),
   (hg.block _ (Array.getElem?_eq_some_iff.1 h.dfr).1 (fun e => absurd (Option.some.inj e) (by omega))).trans h.dfr, (hg.block _ (Array.getElem?_eq_some_iff.1 h.loop).1 (fun e => absurd (Option.some.inj e) (by omega))).trans h.loop, grown_past h.gr hg (.inr (by omega)), hp⟩
theorem JB.setR (h : JB w p s r R ok T q X) (R' : ByteArray) : JB w p s r R' ok T q (X.setCell ⟨w.heap.size, 0, none⟩ (.string R')) := by
 have hp := h.lt
 have hg := grownBy_setCell' X w.heap.size (.string R')
 exact ⟨(hg.block _ h.rd.lt (fun e => absurd (Option.some.inj e) (by omega))).trans h.rd, h.r2.set _, h.r3.kept hg (fun e => absurd (Option.some.inj e) (by omega)), h.rc.kept hg (fun e => absurd (Option.some.inj e) (by omega)), h.bx.kept hg (fun e => absurd (Option.some.inj e) (by omega)),
   (hg.block _ (Array.getElem?_eq_some_iff.1 h.dfr).1 (fun e => absurd (Option.some.inj e) (by omega))).trans h.dfr, (hg.block _ (Array.getElem?_eq_some_iff.1 h.loop).1 (fun e => absurd (Option.some.inj e) (by omega))).trans h.loop, grown_past h.gr hg (.inr (by omega)), hp⟩
theorem JB.setO (h : JB w p s r R ok T q X) (ok' : Bool) : JB w p s r R ok' T q (X.setCell ⟨w.heap.size + 1, 0, none⟩ (.bool ok')) := by
 have hp := h.lt
 have hg := grownBy_setCell' X (w.heap.size + 1) (.bool ok')
 exact ⟨(hg.block _ h.rd.lt (fun e => absurd (Option.some.inj e) (by omega))).trans h.rd, h.r2.kept hg (fun e => absurd (Option.some.inj e) (by omega)), h.r3.set _, h.rc.kept hg (fun e => absurd (Option.some.inj e) (by omega)), h.bx.kept hg (fun e => absurd (Option.some.inj e) (by omega)),
   (hg.block _ (Array.getElem?_eq_some_iff.1 h.dfr).1 (fun e => absurd (Option.some.inj e) (by omega))).trans h.dfr, (hg.block _ (Array.getElem?_eq_some_iff.1 h.loop).1 (fun e => absurd (Option.some.inj e) (by omega))).trans h.loop, grown_past h.gr hg (.inr (by omega)), hp⟩
end
end Go.Proofs.Ytjcgbpjgoacdjaa
