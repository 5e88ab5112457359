/- The model's Filter. -/
import Derived.Test.YtkomnnijnggbpaaHasS
import Derived.Test.YtkomnnijnggbpaaZ0
import Derived.StillTailTactics
namespace Go.Proofs.Ytkomnnijnggbpaa
open Go.RowKit
set_option linter.unusedVariables false

theorem BArr.later {w0 w w' : World} {g : Nat} {xs : List UInt8} (t : BArr w0 w g xs) (hb : Below w.heap.size w w') : BArr w0 w' g xs :=
 ⟨(hb.block g (Array.getElem?_eq_some_iff.1 t.block).1).trans t.block, t.own, t.below.trans (hb.mono t.below.size)⟩
theorem OwnI.grown {B p : Nat} {w w' : World} {v : Value} {ys : List Int} (h : OwnI B w v ys) (hg : w.grownBy w' (some p)) (hp : p < B) : OwnI B w' v ys := by
 refine World.ownsRow.kept h hg ?_
 cases hv : v.ownBlock with
 | none => exact .inl rfl
 | some k =>
   refine .inr (fun e => ?_)
   have := (h.lt hv).1
   cases e
   omega
theorem fsize_in {n : Nat} (h : 1 ≤ n) : (10 * n + 7) / 8 = fsize n := by unfold fsize; rw [if_neg (by omega)]
theorem setBit_is (bs : List UInt8) (p q r : Nat) (hq : p / 8 = q) (hr : p % 8 = r) : setBit bs p = bs.set q (UInt8.ofNat ((bs.getD q 0).toNat ||| 2 ^ r)) := by subst hq hr; rfl

theorem or_bit (x : UInt8) (r : Nat) (h : r < 8) : bits .or .u8 (x.toNat : Int) (2 ^ min r 8 % 256) = ((UInt8.ofNat (x.toNat ||| 2 ^ r)).toNat : Int) := by
 have hx := x.toNat_lt
 rw [or_pow x r h]
 have e : (2 : Int) ^ min r 8 % 256 = ((2 ^ r : Nat) : Int) := by
   rcases (show r = 0 ∨ r = 1 ∨ r = 2 ∨ r = 3 ∨ r = 4 ∨ r = 5 ∨ r = 6 ∨ r = 7 by omega) with h | h | h | h | h | h | h | h <;> subst h <;> rfl
 rw [e]
 exact u8_or_nat x.toNat (2 ^ r) hx (Nat.pow_lt_pow_right (n := 8) (by omega) h)
set_option maxHeartbeats 2000000 in
set_option maxRecDepth 100000 in
theorem specFilter_in (a : Option Addr) (n c : Nat) (keys : List ByteArray) (hn1 : 1 ≤ n) (hn2 : n ≤ 200) (hf : FitS keys) (w : World) (h : StrAt w a n c keys) :
   Calls Try.prog 34 #[.slice a n c] w fun e w' => e = .returned (.string ⟨(filterB (lists keys)).toArray⟩) ∧ Below w.heap.size w w' := by
 have HS := Lib.hid h
 have HF := Lib.hid hf
 have hnc := h.2.1
 obtain ⟨M, hM⟩ : ∃ M, fsize n = M := ⟨_, rfl⟩
 have hM1 : 1 ≤ M := by rw [← hM]; exact fsize_pos n
 have hM2 : M ≤ 250 := by rw [← hM]; exact fsize_le hn2
 have hMi : ((10 : Int) * (n : Int) + 7) / 8 = (M : Int) := by have := fsize_in hn1; omega
 have hMz : ((M : Int) == 0) = false := by simp; omega
 have HMM := Lib.hid hM
 have H8 := Lib.hid (show (8 : Int) * (M : Int) = ((8 * M : Nat) : Int) by omega)
 clear h hf hM
 go_enter Try.func34, Try.ntmps34
 go_wp2_with (at_make; refine wp_makeB rfl _ _ rfl _ _ M rfl rfl (by first | rfl | exact hMi) (by first | rfl | exact hMi) (by omega) ?_; intro w2 t2; have T2 := Lib.hid t2; clear t2)
 go_loopw [5, 6, 7] (fun ii uu kk wr => ∃ i : Nat, i ≤ n ∧ ii = .int .i64 i ∧ Hid (BArr w wr w.heap.size (fillF (8 * M) (List.replicate M 0) ((lists keys).take i)))) (fun ii _ _ _ => n - (intOf ii).toNat)
 case atStart => exact ⟨0, Nat.zero_le _, rfl, T2.out⟩
 case round =>
   obtain ⟨i, hi, rfl, TT⟩ := hrel
   by_cases hlt : i < n
   · obtain ⟨s, hs⟩ : ∃ s, keys[i]? = some s := ⟨_, List.getElem?_eq_getElem (by rw [HS.out.1]; exact hlt)⟩
     obtain ⟨g, hg, cs⟩ := HS.out.2.2 i _ hs
     subst hg
     have c0 := (TT.out.below.cell (p := ⟨g, i, none⟩) (cell_lt cs)).trans cs
     have HK := Lib.hid (show fillF (8 * M) (List.replicate M 0) ((lists keys).take (i + 1)) = setAll (fillF (8 * M) (List.replicate M 0) ((lists keys).take i)) (six (hash s.data.toList) (8 * M) 6) by
       rw [take_next (lists_at hs), fillF_snoc])
     have HLL := Lib.hid (show (fillF (8 * M) (List.replicate M 0) ((lists keys).take i)).length = M by rw [fillF_len, List.length_replicate])
     have HSF := Lib.hid (HF.out s (List.mem_of_getElem? hs))
     obtain ⟨base, hbase⟩ : ∃ base, fillF (8 * M) (List.replicate M 0) ((lists keys).take i) = base := ⟨_, rfl⟩
     rw [hbase] at HK HLL TT
     have i1 : (i : Int) < (n : Int) := by omega
     have i0 : (0 : Int) ≤ (i : Int) := by omega
     clear hs cs hbase
     go_wp2_with fail
     rw [H8.out]
     refine (specProbes s ((8 * M : Nat) : Int) _ HSF.out).mono ?_
     rintro e w3 ⟨v, rfl, o3, b3⟩
     rw [probes_yes (by omega) (by omega)] at o3
     have T3 := Lib.hid (TT.out.later b3)
     have hgl := (Array.getElem?_eq_some_iff.1 TT.out.block).1
     have HPL := Lib.hid (show ∀ p, p ∈ six (hash s.data.toList) (8 * M) 6 → p < 8 * M from fun p hp => six_lt (by omega) hp)
     obtain ⟨ps, hps⟩ : ∃ ps, six (hash s.data.toList) (8 * M) 6 = ps := ⟨_, rfl⟩
     have hp6 : ps.length = 6 := by rw [← hps, six_len]
     rw [hps] at o3 HPL HK
     obtain ⟨ad, cp, rfl⟩ := o3.form
     rw [nums_len, hp6] at o3 ⊢
     have HP6 := Lib.hid hp6
     have O3 := Lib.hid o3
     obtain ⟨B3, hB3⟩ : ∃ B, wr.heap.size = B := ⟨_, rfl⟩
     rw [hB3] at O3 hgl
     clear o3 hps hp6 b3 c0 i1 i0 hB3
     go_wp2_with fail
     go_loopw [7] (fun kk wr => ∃ k : Nat, k ≤ 6 ∧ kk = .int .i64 k ∧ Hid (BArr w wr w.heap.size (setAll base (ps.take k)) ∧ OwnI B3 wr (.slice ad 6 cp) (nums ps))) (fun kk _ => 6 - (intOf kk).toNat)
     case atStart => exact ⟨0, by omega, rfl, ⟨T3.out, O3.out⟩⟩
     case round =>
       obtain ⟨k, hk, rfl, HX⟩ := hrel
       by_cases hlk : k < 6
       · obtain ⟨p, hp⟩ : ∃ p, ps[k]? = some p := ⟨_, List.getElem?_eq_getElem (by rw [HP6.out]; exact hlk)⟩
         obtain ⟨g2, hg, c2⟩ := HX.out.2.row.2.2 k (p : Int) (nums_at hp)
         subst hg
         have hpl := HPL.out p (List.mem_of_getElem? hp)
         obtain ⟨q, hq⟩ : ∃ q, p / 8 = q := ⟨_, rfl⟩
         obtain ⟨r, hr⟩ : ∃ r, p % 8 = r := ⟨_, rfl⟩
         have hqM : q < M := by omega
         have hr8 : r < 8 := by omega
         have HL2 := Lib.hid (show (setAll base (ps.take k)).length = M by rw [setAll_len, HLL.out])
         have HT := Lib.hid (show setAll base (ps.take (k + 1)) = (setAll base (ps.take k)).set q (UInt8.ofNat (((setAll base (ps.take k)).getD q 0).toNat ||| 2 ^ r)) by rw [take_next hp, setAll_snoc, setBit_is _ _ _ _ hq hr])
         have c3 := HX.out.1.cell q (by rw [HL2.out]; exact hqM)
         have f3 := HX.out.1.frozen q
         have e1 : (p : Int) / 8 = (q : Int) := by omega
         have e2 : (p : Int) % 8 = (r : Int) := by omega
         have e5 : (p : Int).tmod 8 = (r : Int) := by rw [Int.tmod_eq_emod_of_nonneg (by omega)]; exact e2
         have e3 : IntKind.i64.wrap (q : Int) = (q : Int) := IntWalk.i64_in _ (by omega)
         have e4 : IntKind.i64.wrap (r : Int) = (r : Int) := IntWalk.i64_in _ (by omega)
         obtain ⟨x, hx⟩ : ∃ x, (setAll base (ps.take k)).getD q 0 = x := ⟨_, rfl⟩
         rw [hx] at c3 HT
         change wr.cell? ⟨w.heap.size, q, none⟩ = some (.int .u8 (x.toNat : Int)) at c3
         have HV := Lib.hid (or_bit x r hr8)
         have k1 : (k : Int) < 6 := by omega
         have k0 : (0 : Int) ≤ (k : Int) := by omega
         have q1 : (q : Int) < (M : Int) := by omega
         have q0 : (0 : Int) ≤ (q : Int) := by omega
         clear hp hx hq hr
         go_wp2_with fail
         refine wp_region_still_tail 23 (by kernel_rfl) (by kernel_rfl) ?_
         simp only [List.take_succ_cons, List.take_zero, List.drop_succ_cons, List.drop_zero]
         iterate 23 still_step
         refine wpStill_nil ?_
         change wpList _ _ _ _ _ wr.drew
         go_wp2
         go_roundw
         case rel =>
           refine ⟨k + 1, by omega, by go_num, ?_, ?_⟩
           · rw [HT.out]
             exact (HX.out.1.set q _ (by rw [HV.out]; rfl)).drewN 1
           · exact (HX.out.2.grown (grown_set _ _ _ _) hgl).below (below_draws 1)
         case measure => simp [intOf]; omega
       · obtain rfl : k = 6 := by omega
         have HE := Lib.hid (show BArr w wr w.heap.size (fillF (8 * M) (List.replicate M 0) ((lists keys).take (i + 1))) by
           have := HX.out.1
           rw [List.take_of_length_le (by rw [HP6.out]; omega)] at this
           rw [HK.out]
           exact this)
         go_wp2
         go_roundw
         case rel => exact ⟨i + 1, by omega, by go_num, HE.out⟩
         case measure => simp [intOf]; omega
   · obtain rfl : i = n := by omega
     have HE := Lib.hid (show fillF (8 * M) (List.replicate M 0) ((lists keys).take i) = filterB (lists keys) by
       rw [List.take_of_length_le (by rw [lists_len, HS.out.1]; omega)]
       unfold filterB
       rw [if_pos (by rw [lists_len, HS.out.1]; omega), lists_len, HS.out.1, HMM.out])
     have hcv := TT.out.str (c := M) (n := M) (by rw [fillF_len, List.length_replicate])
     rw [HE.out] at hcv
     go_wp2
     go_ret
     exact ⟨rfl, TT.out.below⟩
theorem specFilter_none (a : Option Addr) (c : Nat) (w : World) :
   Calls Try.prog 34 #[.slice a 0 c] w fun e w' => e = .returned (.string ⟨(filterB []).toArray⟩) ∧ Below w.heap.size w w' := by
 go_enter Try.func34, Try.ntmps34
 go_wp2_with (at_make; refine wp_makeB rfl _ _ rfl _ _ 1 rfl rfl rfl rfl (by omega) ?_; intro w2 t2; have T2 := Lib.hid t2; clear t2)
 go_loopw [5, 6, 7] (fun ii uu kk wr => ii = .int .i64 0 ∧ wr = w2) (fun ii _ _ _ => 0)
 case atStart => exact ⟨rfl, rfl⟩
 case round =>
   obtain ⟨rfl, rfl⟩ := hrel
   have hcv := T2.out.str (c := 1) (n := 1) (by simp)
   go_wp2
   go_ret
   exact ⟨rfl, T2.out.below⟩
theorem specFilter (a : Option Addr) (n c : Nat) (keys : List ByteArray) (hn : n ≤ 1048576) (hf : FitS keys) (w : World) (h : StrAt w a n c keys) :
   Calls Try.prog 34 #[.slice a n c] w fun e w' => e = .returned (.string ⟨(filterB (lists keys)).toArray⟩) ∧ Below w.heap.size w w' := by
 by_cases h0 : n = 0
 · subst h0
   have : keys = [] := List.eq_nil_of_length_eq_zero h.1
   subst this
   exact specFilter_none a c w
 · by_cases h2 : n ≤ 200
   · exact specFilter_in a n c keys (by omega) h2 hf w h
   · have HE := Lib.hid (filter_no (keys := lists keys) (by rw [lists_len, h.1]; omega))
     have hnc := h.2.1
     have h2i : (200 : Int) < (n : Int) := by omega
     clear h hf
     go_enter Try.func34, Try.ntmps34
     go_wp2
     go_ret
     exact ⟨by rw [HE.out]; rfl, Below.refl _ _⟩
end Go.Proofs.Ytkomnnijnggbpaa
