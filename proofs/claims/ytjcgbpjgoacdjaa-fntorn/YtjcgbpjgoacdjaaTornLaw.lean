/- The walk of the law FnTorn: of a log that is torn anywhere as many records come back as were whole, and no more. -/
import Derived.Test.YtjcgbpjgoacdjaaZ10
import Derived.Test.YtjcgbpjgoacdjaaZ6
import Derived.Test.YtjcgbpjgoacdjaaIntRow
import Derived.Test.YtjcgbpjgoacdjaaZ0
import Derived.Test.YtjcgbpjgoacdjaaSameStrs
import Derived.Test.YtjcgbpjgoacdjaaAtIs
import Derived.Test.YtjcgbpjgoacdjaaZ7
import Derived.Test.YtjcgbpjgoacdjaaZ1
import Derived.Test.YtjcgbpjgoacdjaaBig
namespace Go.Proofs.Ytjcgbpjgoacdjaa
open Go.RowKit
set_option linter.unusedVariables false

def endsOf (rs : List (List UInt8)) : List Int := (List.range (rs.length + 1)).map (fun t => (((logB (rs.take t)).length : Nat) : Int))
theorem ends_len (rs : List (List UInt8)) : (endsOf rs).length = rs.length + 1 := by unfold endsOf; simp
theorem ends_at (rs : List (List UInt8)) {t : Nat} (h : t ≤ rs.length) : (endsOf rs)[t]? = some (((logB (rs.take t)).length : Nat) : Int) := by
 unfold endsOf
 rw [List.getElem?_map, List.getElem?_range (by omega)]
 rfl
theorem ends_snoc (rs : List (List UInt8)) (r : List UInt8) : endsOf (rs ++ [r]) = endsOf rs ++ [(((logB (rs ++ [r])).length : Nat) : Int)] := by
 unfold endsOf
 rw [List.length_append, List.length_singleton, List.range_succ, List.map_append, List.map_singleton]
 congr 1
 · apply List.map_congr_left
   intro t ht
   rw [List.take_append_of_le_length (by have := List.mem_range.1 ht; omega)]
 · rw [List.take_of_length_le (by simp)]
theorem list_ne {w : World} {B B' : Nat} {v v' : Value} {xs : List ByteArray} {ys : List Int} (h : OwnS B w v xs) (h' : OwnI B' w v' ys) : v.ownBlock = none ∨ v.ownBlock ≠ v'.ownBlock := by
 rcases h.2 with ⟨h0, _⟩ | ⟨g, cap, cur, h1, _, h3, _⟩
 · left
   rw [h0]
   rfl
 · rcases h'.2 with ⟨k0, _⟩ | ⟨g', cap', cur', k1, _, k3, _⟩
   · right
     rw [h1, k0]
     simp [Value.ownBlock]
   · right
     rw [h1, k1]
     intro e
     have e2 : g = g' := by simpa [Value.ownBlock] using e
     subst e2
     rw [h3] at k3
     cases k3
theorem list_ne' {w : World} {B B' : Nat} {v v' : Value} {xs : List ByteArray} {ys : List Int} (h : OwnS B w v xs) (h' : OwnI B' w v' ys) : v'.ownBlock = none ∨ v'.ownBlock ≠ v.ownBlock := by
 rcases list_ne h h' with h1 | h1
 · by_cases e : v'.ownBlock = none
   · exact .inl e
   · right
     rw [h1]
     exact e
 · exact .inr (Ne.symm h1)
structure TornAt (w : World) (xs : List ByteArray) (v3 v4 : Value) (L : ByteArray) (W : World) : Prop where
 ok : recsOk (lists xs)
 log : L.data.toList = logB (lists xs)
 own : OwnS w.heap.size W v3 xs
 ends : OwnI w.heap.size W v4 (endsOf (lists xs))
 below : Below w.heap.size w W
theorem endsI_new (w : World) : OwnI w.heap.size ((w.alloc (.cells #[] 9)).alloc (.cells #[.int .i64 0] 3)) (.slice (some ⟨w.heap.size + 1, 0, none⟩) 1 1) [0] := by
 refine ⟨rfl, .inr ⟨w.heap.size + 1, 1, #[.int .i64 0], rfl, by omega, ?_, Nat.le_refl _, by unfold maxLen; omega, rfl, rfl⟩⟩
 have := heap_alloc_new (w.alloc (.cells #[] 9)) (.cells #[.int .i64 0] 3)
 simpa using this
set_option maxHeartbeats 4000000 in
set_option maxRecDepth 100000 in
theorem fnTorn_walk (a0 : Option Addr) (len0 cap0 : Nat) (z0 : List Int) (w : World) (w0 : IsRow .u8 w a0 len0 cap0 z0) :
   Calls Try.prog 5 #[.slice a0 len0 cap0] w fun e w' => e = .returned (.bool true) ∧ Below w.heap.size w w' := by
 have HR := Lib.hid (bytes_of_row w0 w.heap.size (Nat.le_refl _))
 clear w0
 by_cases hbig : len0 ≤ 1048576
 · obtain ⟨N, hN⟩ : ∃ N, 1 + atOf len0 z0 0 % 6 = N := ⟨_, rfl⟩
   have hN6 : N ≤ 6 := by omega
   have HAT := Lib.hid (show ∀ W, Below w.heap.size w W → Calls Try.prog 25 #[.slice a0 len0 cap0, .int .i64 0] W fun e w' => e = .returned (.int .i64 (atOf len0 z0 0 : Nat)) ∧ w' = W from fun W hb => at_is a0 len0 cap0 z0 0 _ W (below_bytes HR.out hb) hbig (by omega))
   obtain ⟨x0, hx0⟩ : ∃ x, atOf len0 z0 0 = x := ⟨_, rfl⟩
   rw [hx0] at hN HAT
   have hNi : (1 : Int) + (x0 : Int) % 6 = (N : Int) := by omega
   have T0 := Lib.hid (show TornAt w [] (.slice (some ⟨w.heap.size, 0, none⟩) 0 0) (.slice (some ⟨w.heap.size + 1, 0, none⟩) 1 1) ⟨#[]⟩ ((w.alloc (.cells #[] 9)).alloc (.cells #[.int .i64 0] 3)) from
     ⟨fun r hr => by simp [lists] at hr, rfl, (owns_made w).new _, endsI_new w, ((Below.refl _ w).alloc (Nat.le_refl _) _).alloc (by simp) _⟩)
   clear hx0 hN
   go_enter Try.func5, Try.ntmps5
   go_wp2_with fail
   refine (big_no a0 len0 cap0 _ hbig).mono ?_
   rintro e w1 ⟨rfl, rfl⟩
   go_wp2_with fail
   go_loopw [3, 4, 5, 6] (fun v3 v4 v5 v6 wr => ∃ (j : Nat) (L : ByteArray) (a3 a4 : Option Addr) (c3 c4 : Nat), v3 = .slice a3 j c3 ∧ v4 = .slice a4 (j + 1) c4 ∧ v5 = .string L ∧ v6 = .int .i64 j ∧ j ≤ N ∧ L.size ≤ 356 * j ∧ Hid (∃ xs, xs.length = j ∧ TornAt w xs v3 v4 L wr)) (fun _ _ _ v6 _ => N - (intOf v6).toNat)
   case atStart => exact ⟨0, ⟨#[]⟩, _, _, _, _, rfl, rfl, rfl, rfl, by omega, Nat.zero_le _, [], rfl, T0.out⟩
   case round =>
     obtain ⟨j, L, a3, a4, c3, c4, rfl, rfl, rfl, rfl, hj, hL, ⟨xs, hxs, hX⟩⟩ := hrel
     have HX := Lib.hid hX
     have HXS := Lib.hid hxs
     clear hX hxs
     go_wp2_with fail
     refine (HAT.out _ HX.out.below).mono ?_
     rintro e w2 ⟨rfl, rfl⟩
     by_cases hlt : j < N
     · have j1 : (j : Int) < (N : Int) := by omega
       have E2 := Lib.hid (show (j : Int) + 2 = ((j + 2 : Nat) : Int) by omega)
       have E1 := Lib.hid (show (j : Int) + 1 = ((j + 1 : Nat) : Int) by omega)
       go_wp2_with fail
       rw [E2.out]
       refine (at_some a0 len0 cap0 z0 (j + 2) _ _ (below_bytes HR.out HX.out.below) hbig (by omega)).mono ?_
       rintro e w2 ⟨x, hx, rfl, rfl⟩
       have EX := Lib.hid (show (x : Int) % 12 = ((x % 12 : Nat) : Int) by omega)
       go_wp2_with fail
       rw [E1.out, EX.out]
       refine (plain_any a0 len0 cap0 z0 (j + 1) (x % 12) (by omega) _ (below_bytes HR.out HX.out.below) hbig (by omega)).mono ?_
       rintro e w2 ⟨r, hr, rfl, b2⟩
       have hr3 : r.size ≤ 300 := by omega
       have hr3i : ¬ (300 : Int) < (r.size : Int) := by omega
       clear hr
       have T2 := Lib.hid (show TornAt w xs (.slice a3 j c3) (.slice a4 (j + 1) c4) L w2 from ⟨HX.out.ok, HX.out.log, HX.out.own.below b2, HX.out.ends.below b2, HX.out.below.trans (b2.mono HX.out.below.size)⟩)
       clear b2
       go_wp2_with fail
       refine (implAppend L r (by omega) (by unfold maxLen; omega) _).mono ?_
       intro e w3 h3
       obtain ⟨M, hM, hMs, rfl, b3⟩ := h3.text
       have hrl : r.data.toList.length = r.size := by simp
       have hll : L.data.toList.length = L.size := by simp
       have HM := Lib.hid hM
       have hMz : M.size ≤ 356 * (j + 1) := by
         rw [hMs, appendB, if_pos (by omega), List.length_append, hll]
         have := rec_len (n := L.size) (first := true) (r := r.data.toList) (by omega)
         omega
       have T3 := Lib.hid (show TornAt w xs (.slice a3 j c3) (.slice a4 (j + 1) c4) L w3 from ⟨HX.out.ok, HX.out.log, T2.out.own.below b3, T2.out.ends.below b3, T2.out.below.trans (b3.mono T2.out.below.size)⟩)
       have hmm : (M.toList == M.toList) = true := by simp
       clear h3 hM hMs b3
       go_wp2_with fail
       refine (specAppend L r (by omega) (by unfold maxLen; omega) _).mono ?_
       intro e w4 h4
       obtain ⟨M2, hM2, -, rfl, b4⟩ := h4.text
       obtain rfl : M = M2 := bytes_ext (by rw [hM2, HM.out])
       have HLS := Lib.hid (lists_snoc xs r)
       have HLG := Lib.hid (show M.data.toList = logB (lists (xs ++ [r])) by
         rw [HM.out, HX.out.log, HLS.out, log_snoc (by omega)])
       have HOK := Lib.hid (show recsOk (lists (xs ++ [r])) by rw [HLS.out]; exact recs_snoc HX.out.ok (by omega))
       have T4 := Lib.hid (show TornAt w xs (.slice a3 j c3) (.slice a4 (j + 1) c4) L w4 from ⟨HX.out.ok, HX.out.log, T3.out.own.below b4, T3.out.ends.below b4, T3.out.below.trans (b4.mono T3.out.below.size)⟩)
       have HML := Lib.hid (show M.data.toList.length = M.size by simp)
       have HEN := Lib.hid (show endsOf (lists (xs ++ [r])) = endsOf (lists xs) ++ [(M.size : Int)] by
         rw [HLS.out, ends_snoc, ← HLS.out, ← HLG.out, HML.out])
       have HNL := Lib.hid (show (xs ++ [r]).length = j + 1 by rw [List.length_append, HXS.out]; rfl)
       have HNE := Lib.hid (show (endsOf (lists xs) ++ [(M.size : Int)]).length = j + 1 + 1 by rw [List.length_append, ends_len, lists_len, HXS.out]; rfl)
       have hne : xs.length + [r].length < 4194304 := by have := HXS.out; simp; omega
       have hni : (endsOf (lists xs)).length + [(M.size : Int)].length < 4194304 := by
         have := HXS.out
         rw [ends_len, lists_len]
         simp
         omega
       have HC := Lib.hid (And.intro hne hni)
       -- the record's row
       have N5 := Lib.hid (new_text w4 r)
       have O5 := Lib.hid (T4.out.own.new (.cells #[.string r] 9))
       have I5 := Lib.hid (T4.out.ends.new (.cells #[.string r] 9))
       have B5 := Lib.hid (T4.out.below.alloc T4.out.below.size (.cells #[.string r] 9))
       clear h4 hM2 b4 hrl hll hne hni
       go_wp2_with (first
         | (at_builtin; refine wpList_plain rfl (fun K hK => ?_); refine op_pushW [r] _ _ rfl rfl rfl rfl N5.out O5.out B5.out.size HC.out.1 ?_; intro v7 w7 o7 gr7; obtain ⟨ad7, cp7, hv7⟩ := o7.form; rw [HNL.out] at hv7; subst hv7; refine hK _ _ ?_; clear hK K; have L7 := Lib.hid (B5.out.grown gr7 B5.out.size (fun q e => (O5.out.lt e).1)); have O7 := Lib.hid o7; have I7 := Lib.hid (show OwnI w.heap.size w7 (.slice a4 (j + 1) c4) (endsOf (lists xs)) from World.ownsRow.kept I5.out gr7 (list_ne' O5.out I5.out)); clear o7 gr7; have N8 := Lib.hid (new_int w7 (M.size : Int)); have O8 := Lib.hid (O7.out.new (.cells #[.int .i64 (M.size : Int)] 3)); have I8 := Lib.hid (I7.out.new (.cells #[.int .i64 (M.size : Int)] 3)); have B8 := Lib.hid (L7.out.alloc L7.out.size (.cells #[.int .i64 (M.size : Int)] 3)))
         | (at_builtin; refine wpList_plain rfl (fun K hK => ?_); refine op_pushI [(M.size : Int)] _ _ rfl rfl rfl rfl N8.out I8.out B8.out.size HC.out.2 ?_; intro v9 w9 o9 gr9; obtain ⟨ad9, cp9, hv9⟩ := o9.form; rw [HNE.out] at hv9; subst hv9; refine hK _ _ ?_; clear hK K; have L9 := Lib.hid (B8.out.grown gr9 B8.out.size (fun q e => (I8.out.lt e).1)); have I9 := Lib.hid o9; have O9 := Lib.hid (show OwnS w.heap.size w9 _ (xs ++ [r]) from World.ownsRow.kept O8.out gr9 (list_ne O8.out I8.out)); clear o9 gr9))
       go_roundw
       case rel => exact ⟨j + 1, M, ad7, ad9, cp7, cp9, rfl, rfl, rfl, by go_num, by omega, hMz, xs ++ [r], HNL.out, HOK.out, HLG.out, O9.out, by rw [HEN.out]; exact I9.out, L9.out⟩
       case measure => simp [intOf]; omega
     · obtain rfl : j = N := by omega
       have j1 : ¬ (j : Int) < (j : Int) := by omega
       go_wp2_with fail
       refine (at_some a0 len0 cap0 z0 20 _ _ (below_bytes HR.out HX.out.below) hbig (by omega)).mono ?_
       rintro e w2 ⟨x, hx, rfl, rfl⟩
       go_wp2_with fail
       refine (at_some a0 len0 cap0 z0 21 _ _ (below_bytes HR.out HX.out.below) hbig (by omega)).mono ?_
       rintro e w2 ⟨y, hy, rfl, rfl⟩
       obtain ⟨n, hn⟩ : ∃ n, (x * 256 + y) % (L.size + 1) = n := ⟨_, rfl⟩
       have hnL : n ≤ L.size := by
         have h := Nat.mod_lt (x * 256 + y) (show 0 < L.size + 1 by omega)
         rw [hn] at h
         omega
       have hni : ((x : Int) * 256 + (y : Int)) % ((L.size : Int) + 1) = (n : Int) := by
         rw [← hn]
         push_cast
         rfl
       have hnz : ¬ (L.size : Int) + 1 = 0 := by omega
       have i0 : (0 : Int) ≤ (n : Int) := by omega
       have i1 : (n : Int) ≤ (L.size : Int) := by omega
       obtain ⟨P, hP⟩ : ∃ P, L.extract 0 n = P := ⟨_, rfl⟩
       have HPD := Lib.hid (show P.data.toList = (logB (lists xs)).take n by rw [← hP, take_of_extract, HX.out.log])
       have hPs : P.size ≤ 1048576 := by rw [← hP, ByteArray.size_extract]; omega
       have HP := Lib.hid hP
       clear hn hP
       go_wp2_with fail
       rw [HP.out]
       refine (implRecover P hPs _).mono ?_
       rintro e w3 ⟨v, ys, rfl, hlo, o3, b3⟩
       rw [HPD.out] at hlo
       have HLO := Lib.hid hlo
       have O3 := Lib.hid o3
       have HS3 := Lib.hid (HX.out.own.row.below b3)
       have HI3 := Lib.hid (HX.out.ends.row.below b3)
       have B3 := Lib.hid (HX.out.below.trans (b3.mono HX.out.below.size))
       obtain ⟨m, hm⟩ : ∃ m, (logB (lists ys)).length = m := ⟨_, rfl⟩
       rw [hm]
       have HM := Lib.hid hm
       have HLX := Lib.hid (show (lists xs).length = j by rw [lists_len, HXS.out])
       clear hlo o3 b3 hm
       go_wp2_with fail
       go_loopw [12] (fun v12 wx => ∃ k : Nat, v12 = .int .i64 k ∧ k ≤ j ∧ Hid ((logB ((lists xs).take k)).length ≤ n ∧ wx = w3)) (fun v12 _ => j - (intOf v12).toNat)
       case atStart => exact ⟨0, rfl, Nat.zero_le _, Nat.zero_le _, rfl⟩
       case round =>
         obtain ⟨k, rfl, hk, ⟨hkn, hwx⟩⟩ := hrel
         obtain rfl := hwx.symm
         have HKN := Lib.hid hkn
         clear hkn
         -- what the law asks at the end
         have FIN := Lib.hid (show k = j ∨ n < (logB ((lists xs).take (k + 1))).length → Longest ((logB (lists xs)).take n) ((lists xs).take k) from fun h =>
           longest_torn HX.out.ok (by rw [HLX.out]; exact hk) HKN.out (by rw [HLX.out]; exact h))
         by_cases hlt : k < j
         · obtain ⟨g, hg, cc⟩ := HI3.out.2.2 (k + 1) _ (ends_at (lists xs) (by rw [HLX.out]; exact hlt))
           obtain ⟨E, hE⟩ : ∃ E, (logB ((lists xs).take (k + 1))).length = E := ⟨_, rfl⟩
           rw [hE] at cc FIN
           have HE := Lib.hid hE
           clear hE
           subst hg
           have n1 : (k : Int) + 1 < (j : Int) + 1 := by omega
           have n2 : (0 : Int) ≤ (k : Int) + 1 := by omega
           by_cases hEn : E ≤ n
           · have n3 : (E : Int) ≤ (n : Int) := by omega
             go_wp2
             go_roundw
             case rel => exact ⟨k + 1, by go_num, by omega, by rw [HE.out]; exact hEn, by first | rfl | trivial⟩
             case measure => simp [intOf]; omega
           · have n3 : ¬ (E : Int) ≤ (n : Int) := by omega
             have HLK := Lib.hid (FIN.out (.inr (by omega)))
             obtain ⟨adk, cpk, hvk⟩ := O3.out.form
             subst hvk
             have hys : ys = xs.take k := (List.map_inj_right (fun x y e => bytes_ext e)).1 (show lists ys = lists (xs.take k) from (longest_one HLO.out HLK.out).trans (by unfold lists; rw [List.map_take]))
             have hyl : ys.length = k := by rw [hys, List.length_take, HXS.out]; omega
             have R3 := Lib.hid (show StrAt w3 adk k cpk (xs.take k) by have h := O3.out.row; rw [hyl, hys] at h; exact h)
             have S3 := Lib.hid (HS3.out.take hk)
             have hc3 := HS3.out.2.1
             obtain ⟨g2, hg2, ck⟩ := HI3.out.2.2 k _ (ends_at (lists xs) (by rw [HLX.out]; exact hk))
             have hmk : (logB ((lists xs).take k)).length = m := by rw [← HM.out, longest_one HLO.out HLK.out]
             rw [hmk] at ck
             have emm : ((m : Int) == (m : Int)) = true := by simp
             rw [hyl]
             have k0 : (0 : Int) ≤ (k : Int) := by omega
             have k1 : (k : Int) ≤ (c3 : Int) := by omega
             have k2 : (k : Int) < (j : Int) + 1 := by omega
             have k3 : (k : Int) ≤ (j : Int) := by omega
             clear hys hyl hmk
             obtain rfl : g2 = g := by cases hg2; rfl
             go_wp2_with fail
             refine (sameStrs_same adk a3 k cpk c3 _ (by omega) _ R3.out S3.out).mono ?_
             rintro e w5 ⟨rfl, b5⟩
             have B5 := Lib.hid (B3.out.trans (b5.mono B3.out.size))
             have ck5 := (b5.cell (p := ⟨g2, k, none⟩) (cell_lt ck)).trans ck
             clear b5
             go_wp2
             go_ret
             exact ⟨rfl, B5.out⟩
         · obtain rfl : k = j := by omega
           have HLK := Lib.hid (FIN.out (.inl rfl))
           have n1 : ¬ (k : Int) + 1 < (k : Int) + 1 := by omega
           obtain ⟨adk, cpk, hvk⟩ := O3.out.form
           subst hvk
           have hys : ys = xs.take k := (List.map_inj_right (fun x y e => bytes_ext e)).1 (show lists ys = lists (xs.take k) from (longest_one HLO.out HLK.out).trans (by unfold lists; rw [List.map_take]))
           have hyl : ys.length = k := by rw [hys, List.length_take, HXS.out]; omega
           have R3 := Lib.hid (show StrAt w3 adk k cpk (xs.take k) by have h := O3.out.row; rw [hyl, hys] at h; exact h)
           have S3 := Lib.hid (HS3.out.take hk)
           have hc3 := HS3.out.2.1
           obtain ⟨g2, hg2, ck⟩ := HI3.out.2.2 k _ (ends_at (lists xs) (by rw [HLX.out]; exact hk))
           have hmk : (logB ((lists xs).take k)).length = m := by rw [← HM.out, longest_one HLO.out HLK.out]
           rw [hmk] at ck
           have emm : ((m : Int) == (m : Int)) = true := by simp
           rw [hyl]
           have k0 : (0 : Int) ≤ (k : Int) := by omega
           have k1 : (k : Int) ≤ (c3 : Int) := by omega
           have k2 : (k : Int) < (k : Int) + 1 := by omega
           clear hys hyl hmk
           subst hg2
           go_wp2_with fail
           refine (sameStrs_same adk a3 k cpk c3 _ (by omega) _ R3.out S3.out).mono ?_
           rintro e w5 ⟨rfl, b5⟩
           have B5 := Lib.hid (B3.out.trans (b5.mono B3.out.size))
           have ck5 := (b5.cell (p := ⟨g2, k, none⟩) (cell_lt ck)).trans ck
           clear b5
           go_wp2
           go_ret
           exact ⟨rfl, B5.out⟩
 · go_enter Try.func5, Try.ntmps5
   go_wp2_with fail
   refine (big_yes a0 len0 cap0 _ hbig).mono ?_
   rintro e w1 ⟨rfl, rfl⟩
   go_wp2
   go_ret
   exact ⟨rfl, Below.refl _ _⟩
end Go.Proofs.Ytjcgbpjgoacdjaa
