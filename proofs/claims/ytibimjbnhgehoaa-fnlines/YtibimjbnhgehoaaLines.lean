/- The program's Lines: the parts between bytes 10, in a list of its own; none of the empty text. -/
import Derived.Test.YtibimjbnhgehoaaParts
import Derived.Test.YtibimjbnhgehoaaSpecLines
namespace Go.Proofs.Ytibimjbnhgehoaa
open Go.RowKit Go.Shelf
set_option linter.unusedVariables false
attribute [local go_sem] Oper.semAt_some

/-- A box that is not among the row's own blocks: what is put behind the row and stored into the box turns those two alone. -/
theorem box_append {W w1 : World} {b0 B : Nat} {t e : TypeId} {size : Nat} {v v' : Value} {k m : Nat} {xs ys : List Value} {tmp : Obj}
    (hv : Boxed W B t v) (hB : B < b0) (hrow : W.ownsRow b0 e size v k xs) (hown : w1.ownsRow b0 e size v' m ys) (hgrow : (W.alloc tmp).grownBy w1 v.ownBlock) :
    Boxed w1 B t v ∧ Boxed (w1.setCell ⟨B, 0, none⟩ v') B t v' ∧ (w1.setCell ⟨B, 0, none⟩ v').ownsRow b0 e size v' m ys ∧ KeepsOthers W (w1.setCell ⟨B, 0, none⟩ v') ∧
      (∀ j, j < b0 → j < W.heap.size → j ≠ B → (w1.setCell ⟨B, 0, none⟩ v').heap[j]? = W.heap[j]?) ∧ W.heap.size ≤ (w1.setCell ⟨B, 0, none⟩ v').heap.size ∧ w1.os = W.os ∧ w1.tape = W.tape ∧ w1.output = W.output := by
  have own : ∀ g, v.ownBlock = some g → b0 ≤ g := fun g hg => (hrow.lt g hg).1
  have own' : ∀ g, v'.ownBlock = some g → b0 ≤ g := fun g hg => (hown.lt g hg).1
  have hv1 : Boxed w1 B t v := (hv.alloc tmp).kept hgrow (fun h => by have := own B h.symm; omega)
  have hblk : ∀ j, j < b0 → j < W.heap.size → w1.heap[j]? = W.heap[j]? := fun j hj hW =>
    (hgrow.block j (by simp; omega) (fun h => by have := own j h.symm; omega)).trans (Below.heap_alloc _ _ _ hW)
  refine ⟨hv1, hv1.set v', hown.kept (grownBy_setCell' w1 B v') (.inr (fun h => by have := own' B h; omega)), ?_, ?_, ?_, hgrow.os, hgrow.tape, hgrow.output⟩
  · refine ((KeepsOthers.alloc W tmp).trans (KeepsOthers.of_grownBy hgrow fun j o ej hj => ?_)).trans (KeepsOthers.setCell _ _ _)
    rcases (hrow.alloc tmp).2 with ⟨rfl, _⟩ | ⟨g, cap, cur, rfl, _, hgb, _⟩
    · simp [Value.ownBlock] at ej
    · obtain rfl : g = j := by simpa [Value.ownBlock] using ej
      rw [hgb] at hj; cases hj; rfl
  · intro j hj hW hne
    rw [Below.heap_setCell _ _ _ _ hne]
    exact hblk j hj hW
  · have h1 := hgrow.size
    simp only [World.size_alloc] at h1
    show _ ≤ (w1.heap.modify _ _).size
    rw [Array.size_modify]; omega

/-- What a collecting loop holds between two rounds: a box with a list that owns its row; all that lay ahead of the call as it lay. -/
def Holding (w : World) (xs : List ByteArray) (W : World) : Prop :=
  ((∃ v, Boxed W w.heap.size 25 v ∧ W.ownsRow (w.heap.size + 3) 9 1 v xs.length (xs.map Value.string) ∧ True) ∧ Below w.heap.size w W) ∧ w.heap.size + 3 ≤ W.heap.size

theorem holding_own (w : World) {b : Nat} (hb : w.heap.size ≤ b) : OwnFrom b (Holding w) :=
  OwnFrom.and (OwnFrom.and (Own.from (holdsRow_own (w.heap.size + 3) w.heap.size 25 9 1 (fun pre : List ByteArray => pre.length) (fun pre => pre.map Value.string) (fun _ _ => True)) _) (ownFrom_below (Nat.le_refl _) hb))
    (fun _ _ _ _ hs hg _ => Nat.le_trans hs hg.size)

set_option maxRecDepth 100000 in
set_option maxHeartbeats 2000000 in
theorem implLines_some (s : ByteArray) (hs : s.size ≤ 1048576) (hne : s.toList.isEmpty = false) (hlen : (left (marked ⟨#[10]⟩) s 0 0).length ≤ 1048577) (w : World) :
    CallsIn Fence.wide 5 Try.prog 12 #[.string s] w (ToldStr w (left (marked ⟨#[10]⟩) s 0 0)) := by
  obtain ⟨i0, hi, hz0, hz1, hz2⟩ := info_parts infoStr
  refine callsIn_of_wp_marks Try.func12 rfl trivial ?_ rfl
  simp only [Try.ntmps12, List.size_toArray, List.length_cons, List.length_nil, Nat.reduceAdd, Nat.reduceSub, Array.replicate_succ, Array.replicate_zero, List.push_toArray, List.append_toArray, List.nil_append, List.cons_append]
  gi_wp2_with fail
  refine ⟨trivial, ?_⟩
  refine (partsBetween_at _ _ _ _).mono ?_
  rintro e w' ⟨rfl, rfl⟩
  have bO := Boxed.new w 25 (.slice none 0 0)
  have b1 := Boxed.new (w.alloc (.cells #[.slice none 0 0] 25)) 9 (.string s)
  have b2 := Boxed.new ((w.alloc (.cells #[.slice none 0 0] 25)).alloc (.cells #[.string s] 9)) 9 (.string ⟨#[10]⟩)
  simp only [World.size_alloc] at b1 b2
  have hB0 : Below w.heap.size w (((w.alloc (.cells #[.slice none 0 0] 25)).alloc (.cells #[.string s] 9)).alloc (.cells #[.string ⟨#[10]⟩] 9)) := (((Below.refl _ w).alloc (Nat.le_refl _) _).alloc (by simp) _).alloc (by simp; omega) _
  have XX := Lib.hid (And.intro bO (And.intro b1 (And.intro b2 hB0)))
  clear bO b1 b2 hB0
  gi_wp2_with fail
  refine wpIn_rangeFunc_ownG (α := ByteArray) rfl (by decide) (gf := 36) (lb := #[.pointer (some ⟨w.heap.size + 1, 0, none⟩), .pointer (some ⟨w.heap.size + 1 + 1, 0, none⟩)]) rfl trivial (enters_of Try.func36 (by kernel_rfl) rfl)
    (parts_stops 4 (w.heap.size + 1) (w.heap.size + 1 + 1) s ⟨#[10]⟩ (by omega) _ (XX.out.2.1.alloc _) XX.out.2.2.1) KeepTwo.trans (keepTwo_put (by simp) (by simp)) (Below.refl _ _) (fun _ => rfl)
    (Holding w) (fun _ _ _ => False) (holding_own w (by simp; omega)) (fun _ _ _ _ _ hs _ _ => hs)
    ⟨⟨⟨_, (XX.out.1.alloc _).alloc _, World.ownsRow_nil _ _ _ _, trivial⟩, XX.out.2.2.2⟩, by simp⟩
    (fun x => { tmps := #[.string s, undef, .slice none 0 0, .pointer (some ⟨w.heap.size, 0, none⟩), .string x, .string s, .bool false, .string s, .func (.func 36) #[] #[.pointer (some ⟨w.heap.size + 1, 0, none⟩), .pointer (some ⟨w.heap.size + 1 + 1, 0, none⟩)], .string x, undef, undef, undef, undef, undef], defers := [] }) ?assign ?body ?done ?stop
  case assign =>
    intro l x W K hK
    gi_wp2
    exact hK
  case body =>
    rintro l pre x W ⟨⟨⟨v, hv, hrow, _⟩, hB⟩, hsz⟩ hlt
    have hc := hv.cell
    have hpl : pre.length < 1048577 := by omega
    gi_wp2_with (gi_at_builtin; refine wpListIn_append_own _ rfl _ _ 25 rfl (w.heap.size + 3) 9 i0 (.string ⟨#[]⟩) 1 16 Try.underlying25 hi hz0 hz1 hz2 rfl (by decide) _ _ _ rfl (hrow.alloc _) ⟨W.heap.size, 0, none⟩ 1 1 [.string x] rfl rfl (cell_one_new _ _ _) (by simp [Value.oneCell']) (by unfold maxLen; omega) (by omega) (by simp; omega) ?_; intro v' w1 hown' hgrow _; obtain ⟨g', cap', rfl⟩ := ownsRow_succ hown'; obtain ⟨hv1, hv2, hr2, hk2, hblk, hsz2, ho, ht, hou⟩ := box_append hv (by omega) hrow hown' hgrow; have hc1 := hv1.cell; have hf1 := hv1.frozen)
    refine ⟨hk2.from _, ⟨hblk _ (by omega) (by omega) (by omega), hblk _ (by omega) (by omega) (by omega)⟩, ⟨⟨_, hv2, by simpa using hr2, trivial⟩, ?_⟩, by omega⟩
    exact hB.trans ⟨ho, ht, hou, hsz2, fun k hk => hblk k (by omega) (by have := hB.size; omega) (by omega)⟩
  case done =>
    rintro D ys W hD rfl ⟨⟨⟨v, hv, hrow, _⟩, hB⟩, hsz⟩ hK
    have hc := hv.cell
    gi_wp2
    refine ⟨by simp, .inl ⟨_, _, rfl, run_takeDeferred hK, ?_⟩⟩
    exact ⟨_, results_tmp rfl _ _ _, v, rfl, ownsRow_putObj (ownsRow_base hrow (by omega)) _ hK rfl, hB.trans (belowK_b (w := w) (Nat.le_refl _) W D _ _ (by simp at hD; omega) hK rfl rfl)⟩
  case stop =>
    rintro D c pre W _ _ h _
    exact h.elim

/-- The lines of a text. -/
def linesOf (s : ByteArray) : List ByteArray := if s.toList = [] then [] else left (marked ⟨#[10]⟩) s 0 0

theorem implLines (s : ByteArray) (hs : s.size ≤ 1048576) (w : World) : Calls Try.prog 12 #[.string s] w (ToldStr w (linesOf s)) := by
  unfold linesOf
  by_cases he : s.toList = []
  · rw [if_pos he]
    go_enter Try.func12, Try.ntmps12
    go_wp2
    go_ret
    exact ⟨_, rfl, World.ownsRow_nil _ _ _ _, Below.refl _ _⟩
  · rw [if_neg he]
    exact callsIn_wide.1 (implLines_some s hs (by rw [List.isEmpty_eq_false_iff]; exact he) (Nat.le_trans (left_len _ s) (by omega)) w)

theorem specLines (s : ByteArray) (hs : s.size ≤ 1048576) (w : World) : Calls Try.prog 16 #[.string s] w (ToldStr w (linesOf s)) := by
  unfold linesOf
  by_cases he : s.toList = []
  · rw [if_pos he]; exact specLines_none s he w
  · rw [if_neg he]; exact specLines_some s hs (by rw [List.isEmpty_eq_false_iff]; exact he) w

theorem lines_len (s : ByteArray) : (linesOf s).length ≤ s.size + 1 := by
  unfold linesOf
  split
  · simp
  · exact left_len _ s
end Go.Proofs.Ytibimjbnhgehoaa
