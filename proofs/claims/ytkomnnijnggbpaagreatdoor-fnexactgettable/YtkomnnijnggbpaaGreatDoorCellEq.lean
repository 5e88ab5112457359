/- The laws' comparisons of cells and of lists of them. -/
import Derived.Test.YtkomnnijnggbpaaGreatDoorZ0
import Derived.BigQuiet
import Derived.Deep.RegionHeld3
namespace Go.Proofs.YtkomnnijnggbpaaGreatDoor
open Go.RowKit
set_option linter.unusedVariables false

set_option maxHeartbeats 1000000 in
theorem eqCell_same (R C : ByteArray) (T : Int) (G : Bool) (V : ByteArray) (w : World) :
   Calls Tryz.prog 43 #[.agg #[.string R, .string C, .int .i64 T, .bool G, .string V], .agg #[.string R, .string C, .int .i64 T, .bool G, .string V]] w fun e w' => e = .returned (.bool true) ∧ Below w.heap.size w w' := by
 have h1 : (!R.toList == R.toList) = false := by simp
 have h2 : (!C.toList == C.toList) = false := by simp
 have h3 : (T != T) = false := by simp
 have h4 : (G != G) = false := by simp
 have h5 : (!V.toList == V.toList) = false := by simp
 go_enter Tryz.func43, Tryz.ntmps43
 go_wp2_with fail
 go_ret
 exact ⟨rfl, two_below0 _ _ _⟩

set_option maxHeartbeats 1000000 in
set_option maxRecDepth 100000 in
theorem eqCellS_same (a a' : Option Addr) (n c c' : Nat) (xs : List Cel) (hn : n ≤ 1048576) (w : World) (h : CelRow w a n c xs) (h' : CelRow w a' n c' xs) :
   Calls Tryz.prog 39 #[.slice a n c, .slice a' n c'] w fun e w' => e = .returned (.bool true) ∧ Below w.heap.size w w' := by
 have H1 := Lib.hid h
 have H2 := Lib.hid h'
 have hc := h.2.1
 have hc' := h'.2.1
 clear h h'
 go_enter Tryz.func39, Tryz.ntmps39
 go_wp2_with fail
 go_loopw [5] (fun ii wr => ∃ i : Nat, i ≤ n ∧ ii = .int .i64 i ∧ Below w.heap.size w wr) (fun ii _ => n - (intOf ii).toNat)
 case atStart => exact ⟨0, Nat.zero_le _, rfl, Below.refl _ _⟩
 case round =>
   obtain ⟨i, hi, rfl, hbel⟩ := hrel
   have RR := Lib.hid hbel
   clear hbel
   by_cases hlt : i < n
   · obtain ⟨⟨R, C, T, G, V⟩, hy⟩ : ∃ y, xs[i]? = some y := ⟨_, List.getElem?_eq_getElem (by rw [H1.out.1]; exact hlt)⟩
     obtain ⟨g, rfl, k5⟩ := H1.out.2.2 i _ hy
     obtain ⟨g', rfl, k5'⟩ := H2.out.2.2 i _ hy
     have M0 := Lib.hid (And.intro (k5.below RR.out) (k5'.below RR.out))
     have i1 : (i : Int) < (n : Int) := by omega
     clear hy k5 k5'
     go_wp2_with fail
     go_region_held3 (fun w' => (w'.cell? ⟨g, i * 5, none⟩ = some (.string R) ∧ w'.cell? ⟨g, i * 5 + 1, none⟩ = some (.string C) ∧ w'.cell? ⟨g, i * 5 + 2, none⟩ = some (.int .i64 T) ∧ w'.cell? ⟨g, i * 5 + 3, none⟩ = some (.bool G) ∧ w'.cell? ⟨g, i * 5 + 4, none⟩ = some (.string V)) ∧ w'.cell? ⟨g', i * 5, none⟩ = some (.string R) ∧ w'.cell? ⟨g', i * 5 + 1, none⟩ = some (.string C) ∧ w'.cell? ⟨g', i * 5 + 2, none⟩ = some (.int .i64 T) ∧ w'.cell? ⟨g', i * 5 + 3, none⟩ = some (.bool G) ∧ w'.cell? ⟨g', i * 5 + 4, none⟩ = some (.string V))
       (first | exact M1.out | exact M0.out)
       (first | (go_at_call 43; refine (eqCell_same R C T G V _).mono ?_; rintro e w1 ⟨rfl, hb1⟩; have M1 := Lib.hid (And.intro (Cel5.below (w := wr.drew) M0.out.1 hb1) (Cel5.below (w := wr.drew) M0.out.2 hb1)); have B1 := Lib.hid (RR.out.drew.trans (hb1.mono (by have := RR.out.size; simpa using this))); clear hb1))
     go_wp2
     go_roundw
     case rel => exact ⟨i + 1, by omega, by go_num, B1.out⟩
     case measure => simp [intOf]; omega
   · go_wp2
     go_ret
     exact ⟨rfl, RR.out⟩
end Go.Proofs.YtkomnnijnggbpaaGreatDoor
