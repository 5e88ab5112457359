/- The form of what Newest answers. -/
import Derived.Test.YtgonnibakkabjaaNewest
import Derived.Test.YtgonnibakkabjaaGotPure
import Derived.Test.YtgonnibakkabjaaGetA
import Derived.Test.YtgonnibakkabjaaCellA
import Derived.Test.YtgonnibakkabjaaNewestS
namespace Go.Proofs.Ytgonnibakkabjaa
open Go.RowKit
theorem new_form {w w' : World} {r : Option Cel} {R C : ByteArray} {T : Int} {G : Bool} {V : ByteArray} (h : r.getD zeroC = ⟨R, C, T, G, V⟩) (hb : Below w.heap.size w w') : NewOut w r (.returned (.tuple #[.agg #[.string R, .string C, .int .i64 T, .bool G, .string V], .bool r.isSome])) w' := by
  cases r with
  | none =>
    have h' : zeroC = ⟨R, C, T, G, V⟩ := h
    refine ⟨?_, hb⟩
    show _ = Ending.returned (.tuple #[celVal zeroC, .bool false])
    rw [h']
    rfl
  | some x =>
    have h' : x = ⟨R, C, T, G, V⟩ := h
    subst h'
    exact ⟨rfl, hb⟩
theorem NewOut.form {w w' : World} {r : Option Cel} {e : Ending} (h : NewOut w r e w') : ∃ (R C : ByteArray) (T : Int) (G : Bool) (V : ByteArray), r.getD zeroC = ⟨R, C, T, G, V⟩ ∧ e = .returned (.tuple #[.agg #[.string R, .string C, .int .i64 T, .bool G, .string V], .bool r.isSome]) ∧ Below w.heap.size w w' := by
  cases r with
  | none => exact ⟨_, _, _, _, _, rfl, h.1, h.2⟩
  | some x => exact ⟨x.row, x.col, x.time, x.gone, x.value, rfl, h.1, h.2⟩
end Go.Proofs.Ytgonnibakkabjaa
/- The program's Seek. -/
namespace Go.Proofs.Ytgonnibakkabjaa
open Go.RowKit
set_option linter.unusedVariables false

set_option maxRecDepth 100000 in
set_option maxHeartbeats 1000000 in
theorem implSeek (s : ByteArray) (every : Int) (R C : ByteArray) (t : Int) (hs : s.size ≤ 1048576) (r : List Cel) (ok : Bool) (hg : Got s.data.toList every r ok) (w : World) :
    Calls Try.prog 23 #[.string s, .int .i64 every, .string R, .string C, .int .i64 t] w (NewOut w (newest r R.data.toList C.data.toList t)) := by
  have HG := Lib.hid hg
  clear hg
  have O0 := Lib.hid (alloc_at w (.cells #[.string ⟨#[]⟩, .string ⟨#[]⟩, .int .i64 0, .bool false, .string ⟨#[]⟩] 38))
  have B0 := Lib.hid (one_below w (.cells #[.string ⟨#[]⟩, .string ⟨#[]⟩, .int .i64 0, .bool false, .string ⟨#[]⟩] 38))
  go_enter Try.func23, Try.ntmps23
  go_wp2_with fail
  refine (implGetBlock s every hs _).mono ?_
  rintro e w1 ⟨v, r', ok', rfl, hg', ho, hb1⟩
  obtain ⟨rfl, rfl⟩ := got_one HG.out hg'
  obtain ⟨ad, cap, rfl⟩ := own_slice ho
  have R1 := Lib.hid ho.row
  have O1 := Lib.hid ((hb1.block _ (Array.getElem?_eq_some_iff.1 O0.out).1).trans O0.out)
  have B1 := Lib.hid (B0.out.trans (hb1.mono B0.out.size))
  clear hg' ho hb1
  go_wp2_with fail
  refine (implNewest ad r.length cap r R C t (by have := (got_few HG.out).1; omega) (got_fit HG.out) _ R1.out).mono ?_
  intro e w2 h2
  obtain ⟨R', C', T', G', V', hrr, rfl, hb2⟩ := h2.form
  have o2 := (hb2.block _ (Array.getElem?_eq_some_iff.1 O1.out).1).trans O1.out
  have O2 := Lib.hid o2
  have B2 := Lib.hid (B1.out.trans (hb2.mono B1.out.size))
  have HRR := Lib.hid hrr
  obtain ⟨x5, z0, z1, z2, z3, z4⟩ := blk5 o2
  unfold One5 at x5
  obtain ⟨b0, b1, b2, b3, b4⟩ := x5
  clear o2 hrr hb2 h2
  obtain ⟨b, hb⟩ : ∃ b, (newest r R.data.toList C.data.toList t).isSome = b := ⟨_, rfl⟩
  rw [hb]
  have HBB := Lib.hid hb
  clear hb
  go_wp2
  refine bodyPost_ret (v := .tuple #[.agg #[.string R', .string C', .int .i64 T', .bool G', .string V'], .bool b]) (res_cell_bool Try.results23 _ _ w.heap.size _ _ _ _ rfl rfl (set5 O2.out _ _ _ _ _) Try.underlying38 rfl (by rw [sizeCel]; rfl)) rfl ?_
  rw [← HBB.out]
  exact new_form HRR.out (set5_below B2.out (Nat.le_refl _) _ _ _ _ _)
end Go.Proofs.Ytgonnibakkabjaa
/- The model's Seek. -/
namespace Go.Proofs.Ytgonnibakkabjaa
open Go.RowKit
set_option linter.unusedVariables false

set_option maxRecDepth 100000 in
set_option maxHeartbeats 1000000 in
theorem specSeek (s : ByteArray) (every : Int) (R C : ByteArray) (t : Int) (hs : s.size ≤ 1048576) (r : List Cel) (ok : Bool) (hg : Got s.data.toList every r ok) (w : World) :
    Calls Try.prog 24 #[.string s, .int .i64 every, .string R, .string C, .int .i64 t] w (NewOut w (newest r R.data.toList C.data.toList t)) := by
  have HG := Lib.hid hg
  clear hg
  have O0 := Lib.hid (alloc_at w (.cells #[.string ⟨#[]⟩, .string ⟨#[]⟩, .int .i64 0, .bool false, .string ⟨#[]⟩] 38))
  have B0 := Lib.hid (one_below w (.cells #[.string ⟨#[]⟩, .string ⟨#[]⟩, .int .i64 0, .bool false, .string ⟨#[]⟩] 38))
  go_enter Try.func24, Try.ntmps24
  go_wp2_with fail
  refine (specGetBlock s every hs _).mono ?_
  rintro e w1 ⟨v, r', ok', rfl, hg', ho, hb1⟩
  obtain ⟨rfl, rfl⟩ := got_one HG.out hg'
  obtain ⟨ad, cap, rfl⟩ := own_slice ho
  have R1 := Lib.hid ho.row
  have O1 := Lib.hid ((hb1.block _ (Array.getElem?_eq_some_iff.1 O0.out).1).trans O0.out)
  have B1 := Lib.hid (B0.out.trans (hb1.mono B0.out.size))
  clear hg' ho hb1
  go_wp2_with fail
  refine (specNewest ad r.length cap r R C t (by have := (got_few HG.out).1; omega) (got_fit HG.out) _ R1.out).mono ?_
  intro e w2 h2
  obtain ⟨R', C', T', G', V', hrr, rfl, hb2⟩ := h2.form
  have o2 := (hb2.block _ (Array.getElem?_eq_some_iff.1 O1.out).1).trans O1.out
  have O2 := Lib.hid o2
  have B2 := Lib.hid (B1.out.trans (hb2.mono B1.out.size))
  have HRR := Lib.hid hrr
  obtain ⟨x5, z0, z1, z2, z3, z4⟩ := blk5 o2
  unfold One5 at x5
  obtain ⟨b0, b1, b2, b3, b4⟩ := x5
  clear o2 hrr hb2 h2
  obtain ⟨b, hb⟩ : ∃ b, (newest r R.data.toList C.data.toList t).isSome = b := ⟨_, rfl⟩
  rw [hb]
  have HBB := Lib.hid hb
  clear hb
  go_wp2
  refine bodyPost_ret (v := .tuple #[.agg #[.string R', .string C', .int .i64 T', .bool G', .string V'], .bool b]) (res_cell_bool Try.results24 _ _ w.heap.size _ _ _ _ rfl rfl (set5 O2.out _ _ _ _ _) Try.underlying38 rfl (by rw [sizeCel]; rfl)) rfl ?_
  rw [← HBB.out]
  exact new_form HRR.out (set5_below B2.out (Nat.le_refl _) _ _ _ _ _)
end Go.Proofs.Ytgonnibakkabjaa
