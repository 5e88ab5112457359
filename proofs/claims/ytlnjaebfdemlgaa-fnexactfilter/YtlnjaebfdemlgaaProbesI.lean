/- The program's Probes: the places in a list of its own. -/
import Derived.Test.YtlnjaebfdemlgaaPlacesI
namespace Go.Proofs.Ytlnjaebfdemlgaa
open Go.RowKit Go.Shelf
set_option linter.unusedVariables false
attribute [local go_sem] Oper.semAt_some

/-- What a collecting loop holds between two rounds: a box with a list that owns its row; all that lay ahead of the call as it lay. -/
def HoldI (w : World) {b : Nat} (xs : List (Spot b)) (W : World) : Prop :=
  ((∃ v, Boxed W w.heap.size 33 v ∧ W.ownsRow (w.heap.size + 3) 3 1 v xs.length ((nums (spots xs)).map i64v) ∧ True) ∧ Below w.heap.size w W) ∧ w.heap.size + 3 ≤ W.heap.size
theorem holdI_own (w : World) (m : Nat) {b : Nat} (hb : w.heap.size ≤ b) : OwnFrom b (fun (xs : List (Spot m)) W => HoldI w xs W) :=
  OwnFrom.and (OwnFrom.and (Own.from (holdsRow_own (w.heap.size + 3) w.heap.size 33 3 1 (fun pre : List (Spot m) => pre.length) (fun pre => (nums (spots pre)).map i64v) (fun _ _ => True)) _) (ownFrom_below (Nat.le_refl _) hb))
    (fun _ _ _ _ hs hg _ => Nat.le_trans hs hg.size)
theorem push_spot {m : Nat} (pre : List (Spot m)) (x : Spot m) : (nums (spots pre)).map i64v ++ [.int .i64 x.at_] = (nums (spots (pre ++ [x]))).map i64v := by
  rw [spots_snoc, nums_snoc, List.map_append]
  rfl

set_option maxRecDepth 100000 in
set_option maxHeartbeats 2000000 in
theorem implProbes_in (s : ByteArray) (b : Int) (w : World) (hs : s.size ≤ maxLen) :
    CallsIn Fence.wide 5 Try.prog 20 #[.string s, .int .i64 b] w (IntsOut w (probes s.data.toList b)) := by
  obtain ⟨i0, hi, hz0, hz1, hz2⟩ := info_parts infoInt
  have HSZ := Lib.hid hs
  clear hs
  refine callsIn_of_wp_marks Try.func20 rfl trivial ?_ rfl
  simp only [Try.ntmps20, List.size_toArray, List.length_cons, List.length_nil, Nat.reduceAdd, Nat.reduceSub, Array.replicate_succ, Array.replicate_zero, List.push_toArray, List.append_toArray, List.nil_append, List.cons_append]
  gi_wp2_with fail
  refine ⟨trivial, ?_⟩
  refine (placesOf_at _ _ _ _).mono ?_
  rintro e w' ⟨rfl, rfl⟩
  have bO := Boxed.new w 33 (.slice none 0 0)
  have b1 := Boxed.new (w.alloc (.cells #[.slice none 0 0] 33)) 9 (.string s)
  have b2 := Boxed.new ((w.alloc (.cells #[.slice none 0 0] 33)).alloc (.cells #[.string s] 9)) 3 (.int .i64 b)
  simp only [World.size_alloc] at b1 b2
  have hB0 : Below w.heap.size w (((w.alloc (.cells #[.slice none 0 0] 33)).alloc (.cells #[.string s] 9)).alloc (.cells #[.int .i64 b] 3)) := (((Below.refl _ w).alloc (Nat.le_refl _) _).alloc (by simp) _).alloc (by simp; omega) _
  have XX := Lib.hid (And.intro bO (And.intro b1 (And.intro b2 hB0)))
  clear bO b1 b2 hB0
  gi_wp2_with fail
  refine wpIn_rangeFunc_ownG (α := Spot b.toNat) rfl (by decide) (gf := 49) (lb := #[.pointer (some ⟨w.heap.size + 1 + 1, 0, none⟩), .pointer (some ⟨w.heap.size + 1, 0, none⟩)]) rfl trivial (enters_of Try.func49 (by kernel_rfl) rfl)
    (places_stops 4 (w.heap.size + 1) (w.heap.size + 1 + 1) s b _ rfl HSZ.out _ (XX.out.2.1.alloc _) XX.out.2.2.1) KeptTwo.trans (keptTwo_put (by simp) (by simp)) (Below.refl _ _) (fun _ => rfl)
    (fun pre W => HoldI w pre W) (fun _ _ _ => False) (holdI_own w _ (by simp; omega)) (fun _ _ _ _ _ hs _ _ => hs)
    ⟨⟨⟨_, (XX.out.1.alloc _).alloc _, World.ownsRow_nil _ _ _ _, trivial⟩, XX.out.2.2.2⟩, by simp⟩
    (fun x => { tmps := #[.string s, .int .i64 b, undef, undef, .slice none 0 0, .pointer (some ⟨w.heap.size, 0, none⟩), .int .i64 x.at_, .string s, .int .i64 b, .func (.func 49) #[] #[.pointer (some ⟨w.heap.size + 1 + 1, 0, none⟩), .pointer (some ⟨w.heap.size + 1, 0, none⟩)], .int .i64 x.at_, undef, undef, undef, undef, undef], defers := [] }) ?assign ?body ?done ?stop
  case assign =>
    intro l x W K hK
    gi_wp2
    exact hK
  case body =>
    rintro l pre x W ⟨⟨⟨v, hv, hrow, _⟩, hB⟩, hsz⟩ hlt
    have hc := hv.cell
    have hpl : pre.length < 6 := hlt
    gi_wp2_with (gi_at_builtin; refine wpListIn_append_own _ rfl _ _ 33 rfl (w.heap.size + 3) 3 i0 (.int .i64 0) 1 8 Try.underlying33 hi hz0 hz1 hz2 rfl (by decide) _ _ _ rfl (hrow.alloc _) ⟨W.heap.size, 0, none⟩ 1 1 [.int .i64 x.at_] rfl rfl (cell_one_new _ _ _) (by simp [Value.oneCell']) (by unfold maxLen; omega) (by omega) (by simp; omega) ?_; intro v' w1 hown' hgrow _; obtain ⟨g', cap', rfl⟩ := ownsRow_succ hown'; obtain ⟨hv1, hv2, hr2, hk2, hblk, hsz2, ho, ht, hou⟩ := box_pushed hv (by omega) hrow hown' hgrow; have hc1 := hv1.cell; have hf1 := hv1.frozen)
    refine ⟨hk2.from _, ⟨hblk _ (by omega) (by omega) (by omega), hblk _ (by omega) (by omega) (by omega)⟩, ⟨⟨_, hv2, by rw [← push_spot, List.length_append]; exact hr2, trivial⟩, ?_⟩, by omega⟩
    exact hB.trans ⟨ho, ht, hou, hsz2, fun k hk => hblk k (by omega) (by have := hB.size; omega) (by omega)⟩
  case done =>
    rintro D ys W hD hys ⟨⟨⟨v, hv, hrow, _⟩, hB⟩, hsz⟩ hK
    have hc := hv.cell
    gi_wp2
    refine ⟨by simp, .inl ⟨_, _, rfl, run_takeDeferred hK, ?_⟩⟩
    rw [hys] at hrow
    refine ⟨_, results_tmp rfl _ _ _, v, rfl, ?_, hB.trans (belowK_b (w := w) (Nat.le_refl _) W D _ _ (by simp at hD; omega) hK rfl rfl)⟩
    have hl : ys.length = (nums (probes s.data.toList b)).length := by rw [nums_len, ← hys, spots_len]
    unfold OwnI
    rw [← hl]
    exact ownsRow_putObj (ownsRow_base hrow (by omega)) _ hK rfl
  case stop =>
    rintro D c pre W _ _ h _
    exact h.elim
theorem implProbes (s : ByteArray) (b : Int) (w : World) (hs : s.size ≤ maxLen) : Calls Try.prog 20 #[.string s, .int .i64 b] w (IntsOut w (probes s.data.toList b)) :=
  callsIn_wide.1 (implProbes_in s b w hs)
end Go.Proofs.Ytlnjaebfdemlgaa
