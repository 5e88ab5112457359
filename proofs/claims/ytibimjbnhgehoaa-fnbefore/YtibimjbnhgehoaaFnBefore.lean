/- The law FnBefore returns true for every code: of two drawn texts one is ahead, or they are one. No condition. -/
import Derived.Test.YtibimjbnhgehoaaRows
import Derived.WalkKit
import Derived.ProofKit
import Derived.OpenShut
import Derived.ShutString
import Derived.ChangeOld
import Derived.Below
import Derived.Test.YtibimjbnhgehoaaBefore
import Derived.Test.YtibimjbnhgehoaaDrawTwo
import Derived.Test.YtibimjbnhgehoaaBig
namespace Go.Proofs.Ytibimjbnhgehoaa.fnBefore
open Go.ChangeShapes Go.WideShapes Go.ChangeAt Go.RowKit
open Go.ChangeMaps (open_string shut_string)
set_option linter.unusedVariables false

theorem xs_list (s : ByteArray) : (s ++ (⟨#[120]⟩ : ByteArray)).data.toList = s.data.toList ++ [120] := by simp
theorem same_list (s t : ByteArray) (h : s.data.toList = t.data.toList) : (s.toList == t.toList) = true := by rw [ByteArray.toList_eq, ByteArray.toList_eq, h]; simp
theorem other_list (s t : ByteArray) (h : s.data.toList ≠ t.data.toList) : (s.toList == t.toList) = false := by rw [ByteArray.toList_eq, ByteArray.toList_eq]; simpa using h

theorem own : ownKnob Try.prog.godebug = none := by kernel_rfl
theorem laidOut : laidOutB Try.prog = true := by kernel_rfl

theorem walk (a0 : Option Addr) (len0 cap0 : Nat) (z0 : List Int) (w : World) (w0 : IsRow .u8 w a0 len0 cap0 z0) :
    Calls Try.prog 4 #[.slice a0 len0 cap0] w fun e w' => e = .returned (.bool true) ∧ Below w.heap.size w w' := by
  have hr := bytes_of_row w0 w.heap.size (Nat.le_refl _)
  have HR := Lib.hid hr
  clear hr w0
  by_cases hbig : len0 ≤ 1048576
  · go_enter Try.func4, Try.ntmps4
    go_wp2_with fail
    refine (big_no a0 len0 cap0 _ hbig).mono ?_
    rintro e w1 ⟨rfl, rfl⟩
    go_wp2_with fail
    refine (drawBefore_at a0 len0 cap0 z0 _ HR.out).mono ?_
    rintro e w1 ⟨s, t, hs, ht, rfl, hb⟩
    have hx := xs_list s
    obtain ⟨hm1, hm2⟩ := ahead_more s.data.toList 120
    rw [← hx] at hm1 hm2
    clear hx
    have M1 := Lib.hid hm1
    have M2 := Lib.hid hm2
    have HB := Lib.hid hb
    clear hm1 hm2 hb
    rcases ahead_three s.data.toList t.data.toList with ⟨h1, h2, h3⟩ | ⟨h1, h2, h3⟩ | ⟨h1, h2, h3⟩
    · have e1 := other_list s t h3
      clear h3
      have A1 := Lib.hid h1
      have A2 := Lib.hid h2
      clear h1 h2
      go_wp2_with fail
      refine (implBefore s t _).mono ?_
      rw [A1.out]
      rintro e w2 ⟨rfl, n2, rfl⟩
      go_wp2_with fail
      refine (implBefore t s _).mono ?_
      rw [A2.out]
      rintro e w2 ⟨rfl, n3, rfl⟩
      go_wp2_with fail
      refine (implBefore s t _).mono ?_
      rw [A1.out]
      rintro e w2 ⟨rfl, n4, rfl⟩
      go_wp2_with fail
      refine (specBefore s t _ (by unfold maxLen; omega) (by unfold maxLen; omega)).mono ?_
      rw [A1.out]
      rintro e w2 ⟨rfl, n5, rfl⟩
      go_wp2_with fail
      refine (implBefore s _ _).mono ?_
      rw [M1.out]
      rintro e w2 ⟨rfl, n6, rfl⟩
      go_wp2_with fail
      refine (implBefore _ s _).mono ?_
      rw [M2.out]
      rintro e w2 ⟨rfl, n7, rfl⟩
      go_wp2_with fail
      go_ret
      exact ⟨rfl, HB.out.trans (below_draws _)⟩
    · have e1 := other_list s t h3
      clear h3
      have A1 := Lib.hid h1
      have A2 := Lib.hid h2
      clear h1 h2
      go_wp2_with fail
      refine (implBefore s t _).mono ?_
      rw [A1.out]
      rintro e w2 ⟨rfl, n2, rfl⟩
      go_wp2_with fail
      refine (implBefore t s _).mono ?_
      rw [A2.out]
      rintro e w2 ⟨rfl, n3, rfl⟩
      go_wp2_with fail
      refine (implBefore s t _).mono ?_
      rw [A1.out]
      rintro e w2 ⟨rfl, n4, rfl⟩
      go_wp2_with fail
      refine (specBefore s t _ (by unfold maxLen; omega) (by unfold maxLen; omega)).mono ?_
      rw [A1.out]
      rintro e w2 ⟨rfl, n5, rfl⟩
      go_wp2_with fail
      refine (implBefore s _ _).mono ?_
      rw [M1.out]
      rintro e w2 ⟨rfl, n6, rfl⟩
      go_wp2_with fail
      refine (implBefore _ s _).mono ?_
      rw [M2.out]
      rintro e w2 ⟨rfl, n7, rfl⟩
      go_wp2_with fail
      go_ret
      exact ⟨rfl, HB.out.trans (below_draws _)⟩
    · have e1 := same_list s t h3
      clear h3
      have A1 := Lib.hid h1
      have A2 := Lib.hid h2
      clear h1 h2
      go_wp2_with fail
      refine (implBefore s t _).mono ?_
      rw [A1.out]
      rintro e w2 ⟨rfl, n2, rfl⟩
      go_wp2_with fail
      refine (implBefore t s _).mono ?_
      rw [A2.out]
      rintro e w2 ⟨rfl, n3, rfl⟩
      go_wp2_with fail
      refine (implBefore s t _).mono ?_
      rw [A1.out]
      rintro e w2 ⟨rfl, n4, rfl⟩
      go_wp2_with fail
      refine (specBefore s t _ (by unfold maxLen; omega) (by unfold maxLen; omega)).mono ?_
      rw [A1.out]
      rintro e w2 ⟨rfl, n5, rfl⟩
      go_wp2_with fail
      refine (implBefore s _ _).mono ?_
      rw [M1.out]
      rintro e w2 ⟨rfl, n6, rfl⟩
      go_wp2_with fail
      refine (implBefore _ s _).mono ?_
      rw [M2.out]
      rintro e w2 ⟨rfl, n7, rfl⟩
      go_wp2_with fail
      go_ret
      exact ⟨rfl, HB.out.trans (below_draws _)⟩
  · go_enter Try.func4, Try.ntmps4
    go_wp2_with fail
    refine (big_yes a0 len0 cap0 _ hbig).mono ?_
    rintro e w1 ⟨rfl, rfl⟩
    go_wp2
    go_ret
    exact ⟨rfl, Below.refl _ _⟩

set_option maxRecDepth 100000 in
theorem lifted (os : Os) (started : os.Started) (H : Type) (enc : TypeId × Value → H) :
    ReturnsInHanded {} Try.checked os 4 .any (Rows.fnBeforeSpec.pre6 enc Try.prog Try.f4 Rows.fnBeforeRow.domain false) (Rows.fnBeforeSpec.post enc Try.prog Try.f4 false true false false) := by
  refine returnsInHanded_of_change (C := Try.checked) own started (by kernel_rfl) Try.func4
    (ChangeSpec.witness6 (enc := enc) (C := Try.checked) false ⟨#[], #[.slice none 0 0], []⟩ 8 (by kernel_rfl) (by kernel_rfl) (by kernel_rfl) (by kernel_rfl)) ?_
  intro W base args ds gs before hval0 hW hcnd _
  have hval : ∀ (j : Nat) t v, Try.f4.params[j]? = some t → args[j]? = some v → Value.okWide Try.prog W .any base t v := hval0
  have hW' := hW
  obtain ⟨p, q, hA0, hV, rfl, hfz, hnd⟩ := hW
  have hA : DataW.TrodAll enc Try.prog W 0 (fun _ => true) true Try.f4.params.toList args.toList ds p := hA0
  rw [Try.params4] at hA hval
  obtain ⟨v0, vs0, d0, ds0, p0, q0, hargs, rfl, rfl, h0, r0⟩ := trodAll_cons hA
  obtain ⟨rfl, rfl, rfl⟩ := trodAll_nil r0
  obtain rfl : args = #[v0] := by cases args; simp_all
  obtain ⟨rfl, rfl⟩ := trodVars_none hV
  obtain ⟨a0, len0, cap0, rfl⟩ := okWide_slice Try.underlying22 (hval 0 22 v0 rfl rfl)
  have k0 := h0
  have lt0 : ∀ x ∈ p0, x.block < W.heap.size := by obtain ⟨m, hm⟩ := k0; exact DataW.trod_lt m _ _ _ hm
  obtain ⟨z0, w0⟩ : ∃ zs, IsRow .u8 W a0 len0 cap0 zs := by
    obtain ⟨fuel, hf⟩ := h0
    rcases open_ints Try.underlying22 Try.underlying5 (by kernel_rfl) hf with ⟨hcs, _⟩ | ⟨x, l, c, zs, hcs, _, hl, hm, hz, _, hcell, hwz⟩
    · simp [Value.cells] at hcs
      obtain ⟨rfl, rfl, rfl⟩ := hcs
      exact ⟨[], .inl ⟨rfl, rfl, rfl, rfl⟩⟩
    · simp [Value.cells] at hcs
      obtain ⟨rfl, rfl, rfl⟩ := hcs
      exact ⟨zs, .inr ⟨_, rfl, hl, hm, by simpa using hz, hcell, hwz⟩⟩
  clear hA0 hval0
  refine (walk a0 len0 cap0 z0 W w0).mono fun e W' ⟨he, bel⟩ => ?_
  subst he
  exact ⟨_, rfl, _, _, _, [], _, [], hW', trodAll_mk1 (shut_bool Try.underlying4 _), (trodAll_cons_mk (Below.trod laidOut (by kernel_rfl) (of_decide_eq_true (by kernel_rfl)) k0 bel lt0) trodAll_mk0), rfl, bel.frame _, fun h => by cases h⟩

theorem over : Rows.fnBeforeRow.holds Try.pinned (OpenSpec.ofChange Rows.fnBeforeSpec) :=
  OpenClaim.holds_of_wide 4 Try.f4 rfl rfl rfl rfl rfl rfl rfl ⟨rfl, rfl, rfl, rfl, rfl⟩ rfl rfl rfl rfl rfl (by kernel_rfl) Try.func4 (by kernel_rfl)
    (of_decide_eq_true (by kernel_rfl)) (by unfold Func.isWrapper; first | (rw [if_pos (by decide +kernel)]; kernel_rfl) | (rw [if_neg (by decide +kernel)]; exact ⟨rfl, rfl⟩))
    (fun os started H enc _ => lifted os started H enc)

/-- ████ THE STATEMENT ████ -/
theorem proved : Rows.FnBeforeSaid := over
end Go.Proofs.Ytibimjbnhgehoaa.fnBefore
namespace Go.Proofs.Ytibimjbnhgehoaa
theorem fnBefore_holds : Rows.FnBeforeSaid := fnBefore.proved
#print axioms fnBefore_holds
end Go.Proofs.Ytibimjbnhgehoaa
