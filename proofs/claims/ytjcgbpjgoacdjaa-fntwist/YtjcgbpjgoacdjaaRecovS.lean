/- The model's Recover and GetLog. -/
import Derived.Test.YtjcgbpjgoacdjaaRecS
import Derived.Test.YtjcgbpjgoacdjaaZ1
import Derived.Test.YtjcgbpjgoacdjaaZ0
namespace Go.Proofs.Ytjcgbpjgoacdjaa
open Go.RowKit
set_option linter.unusedVariables false

def RecovOut (w : World) (s : List UInt8) (e : Ending) (w' : World) : Prop :=
 ∃ (v : Value) (xs : List ByteArray), e = .returned (.tuple #[v, .int .i64 ((logB (lists xs)).length : Nat)]) ∧ Longest s (lists xs) ∧ OwnS w.heap.size w' v xs ∧ Below w.heap.size w w'
def LogOut (w : World) (s : List UInt8) (e : Ending) (w' : World) : Prop :=
 ∃ (v : Value) (xs : List ByteArray) (b : Bool), e = .returned (.tuple #[v, .bool b]) ∧ LogIs s (lists xs) b ∧ OwnS w.heap.size w' v xs ∧ Below w.heap.size w w'
theorem prefix_split {l s : List UInt8} (h : l <+: s) : s = l ++ s.drop l.length := by
 obtain ⟨x, rfl⟩ := h
 rw [List.drop_left]
theorem log_count {xs : List (List UInt8)} {s : List UInt8} (h : logB xs <+: s) : 7 * xs.length ≤ s.length := by
 have h1 := h.length_le
 have h2 := logFrom_least xs 0
 unfold logB at h1
 omega
def Recovering (w : World) (s L : List UInt8) (xs : List ByteArray) (v : Value) (W : World) : Prop := OwnS w.heap.size W v xs ∧ L = logB (lists xs) ∧ recsOk (lists xs) ∧ logB (lists xs) <+: s ∧ Below w.heap.size w W
theorem Recovering.stop {w W : World} {s L : List UInt8} {xs : List ByteArray} {v : Value} (h : Recovering w s L xs v W) (hno : ∀ r y, r.length ≤ 300 → s.drop L.length ≠ putRec L.length true r ++ y) : Longest s (lists xs) := by
 obtain ⟨_, h2, h3, h4, _⟩ := h
 rw [h2] at hno
 exact longest_stop h3 (prefix_split h4) hno
set_option maxHeartbeats 4000000 in
set_option maxRecDepth 100000 in
theorem specRecover (s : ByteArray) (hs : s.size ≤ 1048576) (w : World) : Calls Try.prog 30 #[.string s] w (RecovOut w s.data.toList) := by
 have HSL := Lib.hid (show s.data.toList.length = s.size by simp)
 have O0 := Lib.hid (owns_made w)
 have B0 := Lib.hid ((Below.refl w.heap.size w).alloc (Nat.le_refl _) (.cells #[] 9))
 go_enter Try.func30, Try.ntmps30
 go_wp2_with fail
 go_loopw [4, 5] (fun v4 v5 wr => ∃ (xs : List ByteArray) (L : ByteArray), v5 = .string L ∧ L.size ≤ s.size ∧ Hid (Recovering w s.data.toList L.data.toList xs v4 wr)) (fun _ v5 _ => match v5 with | .string L => s.size - L.size | _ => 0)
 case atStart => exact ⟨[], ⟨#[]⟩, rfl, Nat.zero_le _, O0.out, rfl, (fun r hr => by simp [lists] at hr), List.nil_prefix, B0.out⟩
 case round =>
   obtain ⟨xs, L, rfl, hL, HX⟩ := hrel
   have HLL := Lib.hid (show L.data.toList.length = L.size by simp)
   obtain ⟨ad, cp, hv⟩ := HX.out.1.form
   subst hv
   have HCN := Lib.hid (log_count HX.out.2.2.2.1)
   obtain ⟨M0, hM0⟩ : ∃ m, (logB (lists xs)).length = m := ⟨_, rfl⟩
   have HM0L := Lib.hid (show L.size = M0 by rw [← hM0, ← HX.out.2.1]; exact HLL.out.symm)
   have HM0 := Lib.hid hM0
   clear hM0
   go_wp2_with fail
   refine (specRecord s L.size hs hL _).mono ?_
   rintro e w2 ⟨T, nx, rfl, hnx, hrec, b2⟩
   have HREC := Lib.hid hrec
   have O2 := Lib.hid (HX.out.1.below b2)
   have B2 := Lib.hid (HX.out.2.2.2.2.trans (b2.mono HX.out.2.2.2.2.size))
   clear hrec b2
   rcases hnx with rfl | ⟨hn1, hn2, hT⟩
   · have HLO := Lib.hid (HX.out.stop (fun r y hr e => by
       rw [HLL.out] at e
       have := (HREC.out r y hr e).2
       omega))
     go_wp2
     go_ret2
     exact ⟨_, xs, by rw [HM0.out, ← HM0L.out]; rfl, HLO.out, O2.out, B2.out⟩
   · obtain ⟨N, rfl⟩ := Int.eq_ofNat_of_zero_le (show 0 ≤ nx by omega)
     rw [HSL.out] at hn2
     have hN1 : L.size + 7 ≤ N := by omega
     have hN2 : N ≤ s.size := by omega
     clear hn1 hn2
     have hni : ¬ (N : Int) < 0 := by omega
     go_wp2_with fail
     refine (specAppend L T (by omega) (by unfold maxLen; omega) _).mono ?_
     intro e w3 h3
     obtain ⟨M, hM, hMs, rfl, b3⟩ := h3.text
     have HMD := Lib.hid hM
     have O3 := Lib.hid (O2.out.below b3)
     have B3 := Lib.hid (B2.out.trans (b3.mono B2.out.size))
     have HT := Lib.hid (show T.data.toList.length = T.size by simp)
     have hMsz : M.size = L.size ∨ (T.size ≤ 300 ∧ M.data.toList = L.data.toList ++ putRec L.size true T.data.toList) := by
       rw [hM]
       by_cases h : T.size ≤ 300
       · right
         refine ⟨h, ?_⟩
         rw [appendB, if_pos (by rw [HT.out]; exact h), HLL.out]
       · left
         rw [hMs, appendB, if_neg (by rw [HT.out]; exact h), HLL.out]
     have hMle : M.size ≤ L.size + 8200 := by
       rw [hMs, appendB]
       split
       · rename_i h
         rw [List.length_append, HLL.out]
         have := rec_short (n := L.size) (first := true) h
         omega
       · rw [HLL.out]; omega
     clear h3 hM hMs b3
     obtain ⟨cb, hcb⟩ : ∃ b, ((s.extract 0 N).toList == M.toList) = b := ⟨_, rfl⟩
     have HCB := Lib.hid (show cb = true ↔ s.data.toList.take N = M.data.toList by
       rw [← hcb, beq_iff_eq, ByteArray.toList_eq, ByteArray.toList_eq, take_of_extract])
     have j0 : (0 : Int) ≤ (N : Int) := by omega
     have j1 : (N : Int) ≤ (s.size : Int) := by omega
     -- where a record is there, both are alike
     have HYES := Lib.hid (show ∀ r y, r.length ≤ 300 → s.data.toList.drop L.data.toList.length = putRec L.data.toList.length true r ++ y → M.size = N ∧ cb = true from fun r y hr e => by
       rw [HLL.out] at e
       obtain ⟨h1, h2⟩ := HREC.out r y hr e
       have hM2 : M.data.toList = L.data.toList ++ putRec L.size true r := by
         rw [HMD.out, appendB, if_pos (by rw [h1]; exact hr), HLL.out, h1]
       have h3 : M.data.toList.length = M.size := by simp
       have h4 : M.size = N := by
         rw [← h3, hM2, List.length_append, HLL.out]
         omega
       refine ⟨h4, HCB.out.2 ?_⟩
       have h5 := prefix_split HX.out.2.2.2.1
       rw [← HX.out.2.1, HLL.out, e, ← List.append_assoc, ← hM2] at h5
       rw [h5, List.take_left' (by rw [h3, h4])])
     by_cases hmn : M.size = N
     · have hne : ((M.size : Int) != (N : Int)) = false := by rw [hmn]; simp
       have hne2 : ((N : Int) != (N : Int)) = false := by simp
       cases cb
       · have HLO := Lib.hid (HX.out.stop (fun r y hr e => by
           have := (HYES.out r y hr e).2
           cases this))
         clear hMsz
         go_wp2
         go_ret2
         exact ⟨_, xs, by rw [HM0.out, ← HM0L.out]; rfl, HLO.out, O3.out, B3.out⟩
       · have hTM : T.size ≤ 300 ∧ M.data.toList = L.data.toList ++ putRec L.size true T.data.toList := by
           rcases hMsz with h | h
           · omega
           · exact h
         have HLS := Lib.hid (show lists (xs ++ [T]) = lists xs ++ [T.data.toList] from lists_snoc xs T)
         have HOK := Lib.hid (show recsOk (lists (xs ++ [T])) by
           rw [HLS.out]
           exact recs_snoc HX.out.2.2.1 (by rw [HT.out]; exact hTM.1))
         have HML := Lib.hid (show M.data.toList = logB (lists (xs ++ [T])) by
           rw [HLS.out, log_snoc (by rw [HT.out]; exact hTM.1), ← HX.out.2.1, appendB, if_pos (by rw [HT.out]; exact hTM.1), HLL.out]
           exact hTM.2)
         have HPF := Lib.hid (show logB (lists (xs ++ [T])) <+: s.data.toList by
           rw [← HML.out, ← HCB.out.1 rfl]
           exact List.take_prefix _ _)
         have hxl : xs.length ≤ 150000 := by
           have h1 := HCN.out
           rw [HSL.out, lists_len] at h1
           omega
         clear hMsz hTM
         have N6 := Lib.hid (new_text w3 T)
         have O6 := Lib.hid (O3.out.new (.cells #[.string T] 9))
         have B6 := Lib.hid (B3.out.alloc B3.out.size (.cells #[.string T] 9))
         go_wp2_with (at_builtin; refine wpList_plain rfl (fun K hK => ?_); refine op_pushW [T] _ _ rfl rfl rfl rfl N6.out O6.out B6.out.size (by simp; omega) ?_; intro v7 w7 o7 gr7; refine hK _ _ ?_; clear hK K; have L7 := Lib.hid (B6.out.grown gr7 B6.out.size (fun q e => (O6.out.lt e).1)); have O7 := Lib.hid o7; clear o7 gr7)
         go_roundw
         case rel => exact ⟨xs ++ [T], M, rfl, by omega, O7.out, HML.out, HOK.out, HPF.out, L7.out⟩
         case measure => show s.size - M.size < s.size - L.size; omega
     · have hne : ((M.size : Int) != (N : Int)) = true := by
         rw [bne_iff_ne]
         omega
       have HLO := Lib.hid (HX.out.stop (fun r y hr e => hmn (HYES.out r y hr e).1))
       clear hMsz
       go_wp2
       go_ret2
       exact ⟨_, xs, by rw [HM0.out, ← HM0L.out]; rfl, HLO.out, O3.out, B3.out⟩
set_option maxHeartbeats 1000000 in
set_option maxRecDepth 100000 in
theorem specGetLog (s : ByteArray) (hs : s.size ≤ 1048576) (w : World) : Calls Try.prog 24 #[.string s] w (LogOut w s.data.toList) := by
 have HSL := Lib.hid (show s.data.toList.length = s.size by simp)
 go_enter Try.func24, Try.ntmps24
 go_wp2_with fail
 refine (specRecover s hs _).mono ?_
 rintro e w2 ⟨v, xs, rfl, hlo, o2, b2⟩
 have HLI := Lib.hid (logIs_of hlo)
 rw [HSL.out] at HLI
 obtain ⟨m, hm⟩ : ∃ m, (logB (lists xs)).length = m := ⟨_, rfl⟩
 rw [hm] at HLI ⊢
 have O2 := Lib.hid o2
 have B2 := Lib.hid b2
 clear hlo o2 b2 hm
 by_cases h : m = s.size
 · subst h
   have hne2 : ((s.size : Int) != (s.size : Int)) = false := by simp
   rw [if_pos rfl, decide_eq_true rfl] at HLI
   go_wp2
   go_ret2
   exact ⟨v, xs, true, rfl, HLI.out, O2.out, B2.out⟩
 · have hne : ((m : Int) != (s.size : Int)) = true := by
     rw [bne_iff_ne]
     omega
   rw [if_neg h, decide_eq_false h] at HLI
   have O3 := Lib.hid (owns_base (owns_made w2) B2.out.size)
   have B3 := Lib.hid (B2.out.alloc B2.out.size (.cells #[] 9))
   go_wp2
   go_ret2
   exact ⟨_, [], false, rfl, HLI.out, O3.out, B3.out⟩
end Go.Proofs.Ytjcgbpjgoacdjaa
