/- The program's Recover and GetLog. -/
import Derived.Test.YtjcgbpjgoacdjaaRecordI
import Derived.Test.YtjcgbpjgoacdjaaRecovS
import Derived.Test.YtjcgbpjgoacdjaaZ0
import Derived.Test.YtjcgbpjgoacdjaaZ8
namespace Go.Proofs.Ytjcgbpjgoacdjaa
open Go.RowKit
set_option linter.unusedVariables false

def RecovB (w : World) (s : ByteArray) (xs : List ByteArray) (v : Value) (q : Nat) (W : World) : Prop :=
 RdAt W w.heap.size s q ∧ OwnS (w.heap.size + 1) W v xs ∧ q = (logB (lists xs)).length ∧ recsOk (lists xs) ∧ logB (lists xs) <+: s.data.toList ∧ Below w.heap.size w W ∧ w.heap.size + 1 ≤ W.heap.size
set_option maxHeartbeats 4000000 in
set_option maxRecDepth 100000 in
theorem implRecover (s : ByteArray) (hs : s.size ≤ 1048576) (w : World) : Calls Try.prog 21 #[.string s] w (RecovOut w s.data.toList) := by
 have HSL := Lib.hid (show s.data.toList.length = s.size by simp)
 have R0 := Lib.hid (rd_new w s 0)
 have B0 := Lib.hid ((Below.refl w.heap.size w).alloc (Nat.le_refl _) (.cells #[.string s, .int .i64 0] 57))
 go_enter Try.func21, Try.ntmps21
 go_wp2_with fail
 go_loopw [4] (fun v4 wr => ∃ (q n : Nat) (ad : Option Addr) (cp : Nat), v4 = .slice ad n cp ∧ q ≤ s.size ∧ wr.cell? ⟨w.heap.size, 1, none⟩ = some (.int .i64 q) ∧ Hid (∃ xs : List ByteArray, xs.length = n ∧ RecovB w s xs v4 q wr)) (fun _ wr => match wr.cell? ⟨w.heap.size, 1, none⟩ with | some (.int _ a) => s.size - a.toNat | _ => 0)
 case atStart => exact ⟨0, 0, none, 0, rfl, Nat.zero_le _, R0.out.cells.2.1, [], rfl, R0.out, World.ownsRow_nil _ _ _ _, rfl, (fun r hr => by simp [lists] at hr), List.nil_prefix, B0.out, by simp⟩
 case round =>
   obtain ⟨q, n, ad, cp, rfl, hq, hcq, ⟨xs, hn, hX⟩⟩ := hrel
   have HX := Lib.hid hX
   have HN := Lib.hid hn
   have HCQ := Lib.hid hcq
   clear hX hn
   go_wp2_with fail
   refine (takeRecord_at w.heap.size s q _ HX.out.1 (by omega) hq).mono ?_
   rintro e w2 ⟨T, ok, q', rfl, r2, g2, hy, hno⟩
   have R2 := Lib.hid r2
   have O2 := Lib.hid (HX.out.2.1.grown g2 (Nat.lt_succ_self _))
   have B2 := Lib.hid (HX.out.2.2.2.2.2.1.grown g2 HX.out.2.2.2.2.2.1.size (fun r e => by cases e; exact Nat.le_refl _))
   have Z2 := Lib.hid (Nat.le_trans HX.out.2.2.2.2.2.2 g2.size)
   have HY := Lib.hid hy
   have HNO := Lib.hid hno
   clear r2 g2 hy hno hcq
   cases ok
   · have HLO := Lib.hid (show Longest s.data.toList (lists xs) from longest_stop HX.out.2.2.2.1 (prefix_split HX.out.2.2.2.2.1) (fun r y hr e => HNO.out rfl r y hr (by rw [HX.out.2.2.1]; exact e)))
     have HQ := Lib.hid HX.out.2.2.1
     go_wp2
     go_ret2
     exact ⟨_, xs, by rw [← HQ.out]; rfl, HLO.out, owns_base O2.out (Nat.le_succ _), B2.out⟩
   · obtain ⟨hT3, hq2, hqe, hdr⟩ := HY.out rfl
     have hTl : T.data.toList.length = T.size := by simp
     have HLS := Lib.hid (lists_snoc xs T)
     have HOK := Lib.hid (show recsOk (lists (xs ++ [T])) by
       rw [HLS.out]
       exact recs_snoc HX.out.2.2.2.1 (by omega))
     have HLG := Lib.hid (show logB (lists (xs ++ [T])) = logB (lists xs) ++ putRec q true T.data.toList by
       rw [HLS.out, log_snoc (by omega), appendB, if_pos (by omega), ← HX.out.2.2.1])
     have HPF := Lib.hid (show logB (lists (xs ++ [T])) <+: s.data.toList by
       rw [HLG.out]
       have h1 := prefix_split HX.out.2.2.2.2.1
       rw [← HX.out.2.2.1, hdr, ← List.append_assoc] at h1
       exact ⟨_, h1.symm⟩)
     have HQL := Lib.hid (show q' = (logB (lists (xs ++ [T]))).length by rw [HLG.out, List.length_append, ← HX.out.2.2.1]; exact hqe)
     have hmore : q + 7 ≤ q' := by
       have h1 := rec_at_least q true T.data.toList
       omega
     have hnl : n ≤ 1048576 := by
       have h1 := log_count HX.out.2.2.2.2.1
       have h2 := HSL.out
       have h3 := HN.out
       rw [lists_len] at h1
       omega
     have HNX := Lib.hid (show (xs ++ [T]).length = n + 1 by rw [List.length_append, HN.out]; rfl)
     clear hqe hdr hTl
     have N6 := Lib.hid (new_text w2 T)
     have O6 := Lib.hid (O2.out.new (.cells #[.string T] 9))
     have B6 := Lib.hid (B2.out.alloc B2.out.size (.cells #[.string T] 9))
     have R6 := Lib.hid (rd_under R2.out (one_below w2 (.cells #[.string T] 9)))
     have Z6 := Lib.hid (show w.heap.size + 1 ≤ (w2.alloc (.cells #[.string T] 9)).heap.size by have := Z2.out; simp; omega)
     go_wp2_with (at_builtin; refine wpList_plain rfl (fun K hK => ?_); refine op_pushW [T] _ _ rfl rfl rfl rfl N6.out O6.out Z6.out (by have := HN.out; simp; omega) ?_; intro v7 w7 o7 gr7; obtain ⟨ad7, cp7, hv7⟩ := o7.form; rw [HNX.out] at hv7; subst hv7; refine hK _ _ ?_; clear hK K; have L7 := Lib.hid (B6.out.grown gr7 B6.out.size (fun q e => by have := (O6.out.lt e).1; omega)); have R7 := Lib.hid (show RdAt w7 w.heap.size s q' from (gr7.block _ R6.out.lt (fun e => by have := (O6.out.lt e.symm).1; omega)).trans R6.out); have O7 := Lib.hid o7; have Z7 := Lib.hid (Nat.le_trans Z6.out gr7.size); clear o7 gr7)
     go_roundw
     case rel => exact ⟨q', n + 1, ad7, cp7, rfl, hq2, R7.out.cells.2.1, xs ++ [T], HNX.out, R7.out, O7.out, HQL.out, HOK.out, HPF.out, L7.out, Z7.out⟩
     case measure =>
       rw [HCQ.out, R7.out.cells.2.1]
       simp only [Int.toNat_natCast]
       omega
set_option maxHeartbeats 1000000 in
theorem implGetLog (s : ByteArray) (hs : s.size ≤ 1048576) (w : World) : Calls Try.prog 20 #[.string s] w (LogOut w s.data.toList) := by
 have HSL := Lib.hid (show s.data.toList.length = s.size by simp)
 go_enter Try.func20, Try.ntmps20
 go_wp2_with fail
 refine (implRecover s hs _).mono ?_
 rintro e w2 ⟨v, xs, rfl, hlo, o2, b2⟩
 have hle := hlo.2.1.length_le
 rw [HSL.out] at hle
 have HLI := Lib.hid (logIs_of hlo)
 rw [HSL.out] at HLI
 obtain ⟨m, hm⟩ : ∃ m, (logB (lists xs)).length = m := ⟨_, rfl⟩
 rw [hm] at HLI hle ⊢
 have O2 := Lib.hid o2
 have B2 := Lib.hid b2
 clear hlo o2 b2 hm
 by_cases h : m = s.size
 · have hlt : ¬ (m : Int) < (s.size : Int) := by omega
   rw [if_pos h, decide_eq_true h] at HLI
   clear h
   go_wp2
   go_ret2
   exact ⟨v, xs, true, rfl, HLI.out, O2.out, B2.out⟩
 · have hlt : (m : Int) < (s.size : Int) := by omega
   rw [if_neg h, decide_eq_false h] at HLI
   go_wp2
   go_ret2
   exact ⟨_, [], false, rfl, HLI.out, World.ownsRow_nil _ _ _ _, B2.out⟩
end Go.Proofs.Ytjcgbpjgoacdjaa
/- The program's log: its five contracts. -/
