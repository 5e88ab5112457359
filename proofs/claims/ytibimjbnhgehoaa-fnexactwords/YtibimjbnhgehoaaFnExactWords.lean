/- The law FnExactWords returns true for every string: the program's Words answers as the model's, in memory of its own. No condition. -/
import Derived.Test.YtibimjbnhgehoaaRows
import Derived.WalkKit
import Derived.ProofKit
import Derived.OpenShut
import Derived.ShutString
import Derived.Test.YtibimjbnhgehoaaSpecWords
import Derived.Test.YtibimjbnhgehoaaMarks
import Derived.ChangeOld
import Derived.Below
namespace Go.Proofs.Ytibimjbnhgehoaa.fnExactWords
open Go.ChangeShapes Go.WideShapes Go.ChangeAt Go.RowKit
open Go.ChangeMaps (open_string shut_string)
set_option linter.unusedVariables false      -- a walk need not use every 'w<i>' (that an integer argument fits its kind)

theorem own : ownKnob Try.prog.godebug = none := by kernel_rfl

theorem walk (a0 : ByteArray) (w0 : a0.size ≤ maxLen) (w : World) :
    Calls Try.prog 7 #[.string a0] w fun e w' => e = .returned (.bool true) ∧ Below w.heap.size w w' := by
  by_cases h0 : a0.size ≤ 1048576
  · have hlen := words_len a0
    obtain ⟨xs, hxs⟩ : ∃ xs, wordsIn a0 = xs := ⟨_, rfl⟩
    have HX := Lib.hid hxs
    rw [hxs] at hlen
    clear hxs
    have hl9 : xs.length ≤ 1000000 + 48577 := by omega
    clear hlen
    go_enter Try.func7, Try.ntmps7
    go_wp2_with fail
    refine (specWords a0 h0 _).mono ?_
    rw [HX.out]
    rintro e w1 ⟨v0, rfl, r0, b1⟩
    have Y1 := Lib.hid (And.intro r0 b1)
    clear r0 b1
    go_wp2_with fail
    refine (implWords a0 h0 _).mono ?_
    rw [HX.out]
    rintro e w2 ⟨v1, rfl, r1, b2⟩
    have r0 := row_below Y1.out.1 b2 (fun k hk => (Y1.out.1.lt k hk).2)
    have Y2 := Lib.hid (And.intro r0 (And.intro r1 (And.intro b2 b2.size)))
    clear r0 r1 b2
    go_wp2_with fail
    refine (eqStringS_same v1 v0 _ _ xs (by omega) _ Y2.out.2.1 Y2.out.1).mono ?_
    rintro e w3 ⟨rfl, hw3⟩
    have D3 := Lib.hid (draws_below hw3 w2.heap.size)
    clear hw3
    go_wp2_with fail
    refine (markStringS_one v1 w1.heap.size xs _ (row_below Y2.out.2.1 D3.out (fun k hk => (Y2.out.2.1.lt k hk).2)) (by omega) (Nat.le_trans Y2.out.2.2.2 D3.out.size)).mono ?_
    rintro e w4 ⟨rfl, r1, b4⟩
    have b4' : Below w1.heap.size w2 w4 := (D3.out.mono Y2.out.2.2.2).trans b4
    have r0 := row_below Y2.out.1 b4' (fun k hk => (Y1.out.1.lt k hk).2)
    have Y4 := Lib.hid (And.intro r0 (And.intro r1 (And.intro b4' b4'.size)))
    clear r0 r1 b4 b4'
    go_wp2_with fail
    refine (heldStringS_one v1 _ xs.length _ Y4.out.2.1 (by omega)).mono ?_
    rintro e w5 ⟨rfl, b5⟩
    have r0 := row_below Y4.out.1 b5 (fun k hk => (Y4.out.1.lt k hk).2)
    have r1 := row_below Y4.out.2.1 b5 (fun k hk => (Y4.out.2.1.lt k hk).2)
    have Y5 := Lib.hid (And.intro r0 (And.intro r1 (And.intro b5 b5.size)))
    clear r0 r1 b5
    go_wp2_with fail
    refine (implWords a0 h0 _).mono ?_
    rw [HX.out]
    rintro e w6 ⟨v2, rfl, r2, b6⟩
    have r0 := row_below Y5.out.1 b6 (fun k hk => (Y5.out.1.lt k hk).2)
    have r1 := row_below Y5.out.2.1 b6 (fun k hk => (Y5.out.2.1.lt k hk).2)
    have Y6 := Lib.hid (And.intro r0 (And.intro r1 (And.intro r2 (And.intro b6 b6.size))))
    clear r0 r1 r2 b6
    go_wp2_with fail
    refine (eqStringS_same v2 v0 _ _ xs (by omega) _ Y6.out.2.2.1 Y6.out.1).mono ?_
    rintro e w7 ⟨rfl, hw7⟩
    have D7 := Lib.hid (draws_below hw7 w6.heap.size)
    clear hw7
    go_wp2_with fail
    refine (heldStringS_one v1 _ xs.length _ (row_below Y6.out.2.1 D7.out (fun k hk => (Y6.out.2.1.lt k hk).2)) (by omega)).mono ?_
    rintro e w8 ⟨rfl, b8⟩
    have B8 := Lib.hid b8
    clear b8
    go_wp2_with fail
    go_ret
    refine ⟨rfl, ?_⟩
    have q1 := Y1.out.2
    have q2 := Y2.out.2.2.1
    have q4 := Y4.out.2.2.1
    have q5 := Y5.out.2.2.1
    have q6 := Y6.out.2.2.2.1
    have q7 := D7.out
    have q8 := B8.out
    have s1 := q1.size
    have s2 := q2.size
    have s4 := q4.size
    have s5 := q5.size
    have s6 := q6.size
    have s7 := q7.size
    exact ((((((q1.trans (q2.mono s1)).trans (q4.mono s1)).trans (q5.mono (by omega))).trans (q6.mono (by omega))).trans (q7.mono (by omega))).trans (q8.mono (by omega)))
  · go_enter Try.func7, Try.ntmps7
    go_wp2
    go_ret
    exact ⟨rfl, Below.refl _ _⟩

set_option maxRecDepth 100000 in
theorem lifted (os : Os) (started : os.Started) (H : Type) (enc : TypeId × Value → H) :
    ReturnsInHanded {} Try.checked os 7 .any (Rows.fnExactWordsSpec.pre6 enc Try.prog Try.f7 Rows.fnExactWordsRow.domain false) (Rows.fnExactWordsSpec.post enc Try.prog Try.f7 false true false false) := by
  refine returnsInHanded_of_change (C := Try.checked) own started (by kernel_rfl) Try.func7
    (ChangeSpec.witness6 (enc := enc) (C := Try.checked) false ⟨#[], #[.string ByteArray.empty], []⟩ 8 (by kernel_rfl) (by kernel_rfl) (by kernel_rfl) (by kernel_rfl)) ?_
  intro W base args ds gs before hval0 hW hcnd _
  have hval : ∀ (j : Nat) t v, Try.f7.params[j]? = some t → args[j]? = some v → Value.okWide Try.prog W .any base t v := hval0
  have hW' := hW
  obtain ⟨p, q, hA0, hV, rfl, hfz, hnd⟩ := hW
  have hA : DataW.TrodAll enc Try.prog W 0 (fun _ => true) true Try.f7.params.toList args.toList ds p := hA0
  rw [Try.params7] at hA hval
  obtain ⟨v0, vs0, d0, ds0, p0, q0, hargs, rfl, rfl, h0, r0⟩ := trodAll_cons hA
  obtain ⟨rfl, rfl, rfl⟩ := trodAll_nil r0
  obtain rfl : args = #[v0] := by cases args; simp_all
  obtain ⟨rfl, rfl⟩ := trodVars_none hV
  obtain ⟨a0, rfl, rfl, rfl, w0⟩ := open_string Try.underlying9 (hval 0 9 v0 rfl rfl) h0
  clear hA0 hval0
  simp only [List.append_nil] at hW'
  refine (walk a0 w0 W).mono fun e W' ⟨he, bel⟩ => ?_
  subst he
  exact ⟨_, rfl, _, _, _, [], _, [], hW', trodAll_mk1 (shut_bool Try.underlying4 _), (trodAll_cons_mk (shut_string Try.underlying9 w0) trodAll_mk0), rfl, bel.frame _, fun h => by cases h⟩

theorem over : Rows.fnExactWordsRow.holds Try.pinned (OpenSpec.ofChange Rows.fnExactWordsSpec) :=
  OpenClaim.holds_of_wide 7 Try.f7 rfl rfl rfl rfl rfl rfl rfl ⟨rfl, rfl, rfl, rfl, rfl⟩ rfl rfl rfl rfl rfl (by kernel_rfl) Try.func7 (by kernel_rfl)
    (of_decide_eq_true (by kernel_rfl)) (by unfold Func.isWrapper; first | (rw [if_pos (by decide +kernel)]; kernel_rfl) | (rw [if_neg (by decide +kernel)]; exact ⟨rfl, rfl⟩))
    (fun os started H enc _ => lifted os started H enc)

/-- ████ THE STATEMENT ████ -/
theorem proved : Rows.FnExactWordsSaid :=
  over
end Go.Proofs.Ytibimjbnhgehoaa.fnExactWords
namespace Go.Proofs.Ytibimjbnhgehoaa
theorem fnExactWords_holds : Rows.FnExactWordsSaid := fnExactWords.proved
#print axioms fnExactWords_holds
end Go.Proofs.Ytibimjbnhgehoaa
