/- The walks of the laws FnExactFragment, FnExactAppend, FnExactGetLog and FnExactRecover. -/
import Derived.Test.YtjcgbpjgoacdjaaZ10
import Derived.Test.YtjcgbpjgoacdjaaZ2
import Derived.Test.YtjcgbpjgoacdjaaZ0
namespace Go.Proofs.Ytjcgbpjgoacdjaa
open Go.RowKit
set_option linter.unusedVariables false

theorem lists_inj {xs ys : List ByteArray} (h : lists xs = lists ys) : xs = ys := (List.map_inj_right (fun x y e => bytes_ext e)).1 h
set_option maxHeartbeats 1000000 in
theorem fnExactFragment_walk (w : World) (a0 : Int) (w0 : (Lit.int .i64 a0).wf = true) (a1 : ByteArray) :
   Calls Try.prog 11 #[.int .i64 a0, .string a1] w fun e w' => e = .returned (.bool true) ∧ Below w.heap.size w w' := by
 have hk : -9223372036854775808 ≤ a0 ∧ a0 ≤ 9223372036854775807 := by
   have h := w0
   simp [Lit.wf, IntKind.min, IntKind.max, IntKind.bits, IntKind.signed] at h
   omega
 by_cases h1 : a1.size ≤ 1048576
 · obtain ⟨X, hX, _⟩ := text_of (fragment a0 a1.data.toList)
   have HX := Lib.hid hX
   clear hX
   go_enter Try.func11, Try.ntmps11
   go_wp2_with fail
   refine (specFragment a0 a1 hk (by unfold maxLen; omega) _).mono ?_
   intro e w2 h2
   obtain ⟨Y, hY, _, rfl, b2⟩ := h2.text
   rw [← HX.out] at hY
   obtain rfl : Y = X := bytes_ext hY
   have B2 := Lib.hid b2
   clear h2 hY b2
   go_wp2_with fail
   refine (implFragment a0 a1 hk (by unfold maxLen; omega) _).mono ?_
   intro e w3 h3
   obtain ⟨Z, hZ, _, rfl, b3⟩ := h3.text
   rw [← HX.out] at hZ
   obtain rfl : Z = Y := bytes_ext hZ
   have B3 := Lib.hid (B2.out.trans (b3.mono B2.out.size))
   clear h3 hZ b3
   go_wp2
   go_ret
   exact ⟨rfl, B3.out⟩
 · go_enter Try.func11, Try.ntmps11
   go_wp2
   go_ret
   exact ⟨rfl, Below.refl _ _⟩
set_option maxHeartbeats 1000000 in
theorem fnExactAppend_walk (w : World) (a0 a1 : ByteArray) :
   Calls Try.prog 12 #[.string a0, .string a1] w fun e w' => e = .returned (.bool true) ∧ Below w.heap.size w w' := by
 by_cases h0 : a0.size ≤ 1048576
 · by_cases h1 : a1.size ≤ 1048576
   · obtain ⟨X, hX, _⟩ := text_of (appendB a0.data.toList a1.data.toList)
     have HX := Lib.hid hX
     clear hX
     go_enter Try.func12, Try.ntmps12
     go_wp2_with fail
     refine (specAppend a0 a1 (by omega) (by unfold maxLen; omega) _).mono ?_
     intro e w2 h2
     obtain ⟨Y, hY, _, rfl, b2⟩ := h2.text
     rw [← HX.out] at hY
     obtain rfl : Y = X := bytes_ext hY
     have B2 := Lib.hid b2
     clear h2 hY b2
     go_wp2_with fail
     refine (implAppend a0 a1 (by omega) (by unfold maxLen; omega) _).mono ?_
     intro e w3 h3
     obtain ⟨Z, hZ, _, rfl, b3⟩ := h3.text
     rw [← HX.out] at hZ
     obtain rfl : Z = Y := bytes_ext hZ
     have B3 := Lib.hid (B2.out.trans (b3.mono B2.out.size))
     clear h3 hZ b3
     go_wp2
     go_ret
     exact ⟨rfl, B3.out⟩
   · go_enter Try.func12, Try.ntmps12
     go_wp2
     go_ret
     exact ⟨rfl, Below.refl _ _⟩
 · go_enter Try.func12, Try.ntmps12
   go_wp2
   go_ret
   exact ⟨rfl, Below.refl _ _⟩
set_option maxHeartbeats 2000000 in
theorem fnExactRecover_walk (w : World) (a0 : ByteArray) :
   Calls Try.prog 15 #[.string a0] w fun e w' => e = .returned (.bool true) ∧ Below w.heap.size w w' := by
 by_cases h0 : a0.size ≤ 1048576
 · go_enter Try.func15, Try.ntmps15
   go_wp2_with fail
   refine (specRecover a0 h0 _).mono ?_
   rintro e w1 ⟨v0, xs, rfl, hlo, r0, b1⟩
   unfold OwnS at r0
   have HLO := Lib.hid hlo
   have hl9 : xs.length ≤ 1000000 := by
     have h1 := log_count hlo.2.1
     have h2 : a0.data.toList.length = a0.size := by simp
     rw [lists_len] at h1
     omega
   obtain ⟨m, hm⟩ : ∃ m, (logB (lists xs)).length = m := ⟨_, rfl⟩
   have HM := Lib.hid hm
   have hmm : ((m : Int) != (m : Int)) = false := by simp
   rw [hm]
   have Y1 := Lib.hid (And.intro r0 b1)
   clear r0 b1 hlo hm
   go_wp2_with fail
   refine (implRecover a0 h0 _).mono ?_
   rintro e w2 ⟨v1, ys, rfl, hlo, r1, b2⟩
   unfold OwnS at r1
   obtain rfl : ys = xs := lists_inj (longest_one hlo HLO.out)
   rw [HM.out]
   have r0 := row_below Y1.out.1 b2 (fun k hk => (Y1.out.1.lt k hk).2)
   have Y2 := Lib.hid (And.intro r0 (And.intro r1 (And.intro b2 b2.size)))
   clear r0 r1 b2 hlo
   go_wp2_with fail
   refine (eqStringS_same v1 v0 _ _ ys (by omega) _ Y2.out.2.1 Y2.out.1).mono ?_
   rintro e w3 ⟨rfl, hw3⟩
   have D3 := Lib.hid (draws_below hw3 w2.heap.size)
   clear hw3
   go_wp2_with fail
   refine (markStringS_one v1 w1.heap.size ys _ (row_below Y2.out.2.1 D3.out (fun k hk => (Y2.out.2.1.lt k hk).2)) (by omega) (Nat.le_trans Y2.out.2.2.2 D3.out.size)).mono ?_
   rintro e w4 ⟨rfl, r1, b4⟩
   have b4' : Below w1.heap.size w2 w4 := (D3.out.mono Y2.out.2.2.2).trans b4
   have r0 := row_below Y2.out.1 b4' (fun k hk => (Y1.out.1.lt k hk).2)
   have Y4 := Lib.hid (And.intro r0 (And.intro r1 (And.intro b4' b4'.size)))
   clear r0 r1 b4 b4'
   go_wp2_with fail
   refine (heldStringS_one v1 _ ys.length _ Y4.out.2.1 (by omega)).mono ?_
   rintro e w5 ⟨rfl, b5⟩
   have r0 := row_below Y4.out.1 b5 (fun k hk => (Y4.out.1.lt k hk).2)
   have r1 := row_below Y4.out.2.1 b5 (fun k hk => (Y4.out.2.1.lt k hk).2)
   have Y5 := Lib.hid (And.intro r0 (And.intro r1 (And.intro b5 b5.size)))
   clear r0 r1 b5
   go_wp2_with fail
   refine (implRecover a0 h0 _).mono ?_
   rintro e w6 ⟨v2, zs, rfl, hlo, r2, b6⟩
   unfold OwnS at r2
   obtain rfl : zs = ys := lists_inj (longest_one hlo HLO.out)
   rw [HM.out]
   have r0 := row_below Y5.out.1 b6 (fun k hk => (Y5.out.1.lt k hk).2)
   have r1 := row_below Y5.out.2.1 b6 (fun k hk => (Y5.out.2.1.lt k hk).2)
   have Y6 := Lib.hid (And.intro r0 (And.intro r1 (And.intro r2 (And.intro b6 b6.size))))
   clear r0 r1 r2 b6 hlo
   go_wp2_with fail
   refine (eqStringS_same v2 v0 _ _ zs (by omega) _ Y6.out.2.2.1 Y6.out.1).mono ?_
   rintro e w7 ⟨rfl, hw7⟩
   have D7 := Lib.hid (draws_below hw7 w6.heap.size)
   clear hw7
   go_wp2_with fail
   refine (heldStringS_one v1 _ zs.length _ (row_below Y6.out.2.1 D7.out (fun k hk => (Y6.out.2.1.lt k hk).2)) (by omega)).mono ?_
   rintro e w8 ⟨rfl, b8⟩
   have B8 := Lib.hid b8
   clear b8
   go_wp2_with fail
   go_ret
   refine ⟨rfl, ?_⟩
   have q1 := Y1.out.2
   have q2 := Y2.out.2.2.1
   have q4 := Y4.out.2.2.1
   have q5 := Y5.out.2.2.1
   have q6 := Y6.out.2.2.2.1
   have q7 := D7.out
   have q8 := B8.out
   have s1 := q1.size
   have s2 := q2.size
   have s4 := q4.size
   have s5 := q5.size
   have s6 := q6.size
   have s7 := q7.size
   exact ((((((q1.trans (q2.mono s1)).trans (q4.mono s1)).trans (q5.mono (by omega))).trans (q6.mono (by omega))).trans (q7.mono (by omega))).trans (q8.mono (by omega)))
 · go_enter Try.func15, Try.ntmps15
   go_wp2
   go_ret
   exact ⟨rfl, Below.refl _ _⟩
set_option maxHeartbeats 2000000 in
theorem fnExactGetLog_walk (w : World) (a0 : ByteArray) :
   Calls Try.prog 14 #[.string a0] w fun e w' => e = .returned (.bool true) ∧ Below w.heap.size w w' := by
 by_cases h0 : a0.size ≤ 1048576
 · go_enter Try.func14, Try.ntmps14
   go_wp2_with fail
   refine (specGetLog a0 h0 _).mono ?_
   rintro e w1 ⟨v0, xs, b, rfl, hlo, r0, b1⟩
   unfold OwnS at r0
   have HLO := Lib.hid hlo
   have hl9 : xs.length ≤ 1000000 := by
     rcases hlo with ⟨_, _, h1⟩ | ⟨_, h1, _⟩
     · have h3 := logFrom_least (lists xs) 0
       have h2 : (logFrom 0 (lists xs)).length = a0.size := by
         unfold logB at h1
         rw [h1]
         simp
       rw [lists_len] at h3
       omega
     · have h2 := congrArg List.length h1
       rw [lists_len, List.length_nil] at h2
       omega
   have hbb : (b != b) = false := by simp
   have Y1 := Lib.hid (And.intro r0 b1)
   clear r0 b1 hlo
   go_wp2_with fail
   refine (implGetLog a0 h0 _).mono ?_
   rintro e w2 ⟨v1, ys, b', rfl, hlo, r1, b2⟩
   unfold OwnS at r1
   obtain ⟨e1, rfl⟩ := logIs_one hlo HLO.out
   obtain rfl : ys = xs := lists_inj e1
   have r0 := row_below Y1.out.1 b2 (fun k hk => (Y1.out.1.lt k hk).2)
   have Y2 := Lib.hid (And.intro r0 (And.intro r1 (And.intro b2 b2.size)))
   clear r0 r1 b2 hlo e1
   go_wp2_with fail
   refine (eqStringS_same v1 v0 _ _ ys (by omega) _ Y2.out.2.1 Y2.out.1).mono ?_
   rintro e w3 ⟨rfl, hw3⟩
   have D3 := Lib.hid (draws_below hw3 w2.heap.size)
   clear hw3
   go_wp2_with fail
   refine (markStringS_one v1 w1.heap.size ys _ (row_below Y2.out.2.1 D3.out (fun k hk => (Y2.out.2.1.lt k hk).2)) (by omega) (Nat.le_trans Y2.out.2.2.2 D3.out.size)).mono ?_
   rintro e w4 ⟨rfl, r1, b4⟩
   have b4' : Below w1.heap.size w2 w4 := (D3.out.mono Y2.out.2.2.2).trans b4
   have r0 := row_below Y2.out.1 b4' (fun k hk => (Y1.out.1.lt k hk).2)
   have Y4 := Lib.hid (And.intro r0 (And.intro r1 (And.intro b4' b4'.size)))
   clear r0 r1 b4 b4'
   go_wp2_with fail
   refine (heldStringS_one v1 _ ys.length _ Y4.out.2.1 (by omega)).mono ?_
   rintro e w5 ⟨rfl, b5⟩
   have r0 := row_below Y4.out.1 b5 (fun k hk => (Y4.out.1.lt k hk).2)
   have r1 := row_below Y4.out.2.1 b5 (fun k hk => (Y4.out.2.1.lt k hk).2)
   have Y5 := Lib.hid (And.intro r0 (And.intro r1 (And.intro b5 b5.size)))
   clear r0 r1 b5
   go_wp2_with fail
   refine (implGetLog a0 h0 _).mono ?_
   rintro e w6 ⟨v2, zs, b'', rfl, hlo, r2, b6⟩
   unfold OwnS at r2
   obtain ⟨e1, rfl⟩ := logIs_one hlo HLO.out
   obtain rfl : zs = ys := lists_inj e1
   have r0 := row_below Y5.out.1 b6 (fun k hk => (Y5.out.1.lt k hk).2)
   have r1 := row_below Y5.out.2.1 b6 (fun k hk => (Y5.out.2.1.lt k hk).2)
   have Y6 := Lib.hid (And.intro r0 (And.intro r1 (And.intro r2 (And.intro b6 b6.size))))
   clear r0 r1 r2 b6 hlo e1
   go_wp2_with fail
   refine (eqStringS_same v2 v0 _ _ zs (by omega) _ Y6.out.2.2.1 Y6.out.1).mono ?_
   rintro e w7 ⟨rfl, hw7⟩
   have D7 := Lib.hid (draws_below hw7 w6.heap.size)
   clear hw7
   go_wp2_with fail
   refine (heldStringS_one v1 _ zs.length _ (row_below Y6.out.2.1 D7.out (fun k hk => (Y6.out.2.1.lt k hk).2)) (by omega)).mono ?_
   rintro e w8 ⟨rfl, b8⟩
   have B8 := Lib.hid b8
   clear b8
   go_wp2_with fail
   go_ret
   refine ⟨rfl, ?_⟩
   have q1 := Y1.out.2
   have q2 := Y2.out.2.2.1
   have q4 := Y4.out.2.2.1
   have q5 := Y5.out.2.2.1
   have q6 := Y6.out.2.2.2.1
   have q7 := D7.out
   have q8 := B8.out
   have s1 := q1.size
   have s2 := q2.size
   have s4 := q4.size
   have s5 := q5.size
   have s6 := q6.size
   have s7 := q7.size
   exact ((((((q1.trans (q2.mono s1)).trans (q4.mono s1)).trans (q5.mono (by omega))).trans (q6.mono (by omega))).trans (q7.mono (by omega))).trans (q8.mono (by omega)))
 · go_enter Try.func14, Try.ntmps14
   go_wp2
   go_ret
   exact ⟨rfl, Below.refl _ _⟩
end Go.Proofs.Ytjcgbpjgoacdjaa
