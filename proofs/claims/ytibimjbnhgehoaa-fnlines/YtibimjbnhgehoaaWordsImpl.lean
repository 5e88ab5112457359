/- The program's Words: its list in a row of its own. -/
import Derived.Test.YtibimjbnhgehoaaWords
import Derived.Maps.OwnIn
namespace Go.Proofs.Ytibimjbnhgehoaa
open Go.RowKit Go.Shelf
set_option linter.unusedVariables false
attribute [local go_sem] Oper.semAt_some

theorem cellsRow_of {W : World} {b e size n : Nat} {v : Value} {xs : List Value} (h : W.ownsRow b e size v n xs) : CellsRow W v := by
  intro g hg
  rcases h.2 with ⟨rfl, _⟩ | ⟨g', cap, cur, rfl, _, h3, _⟩
  · simp [Value.ownBlock] at hg
  · obtain rfl : g' = g := by simpa [Value.ownBlock] using hg
    exact ⟨_, _, _, h3⟩

theorem keepBut_append {W w1 : World} {b0 B Lr : Nat} {e : TypeId} {size : Nat} {v v' : Value} {k m : Nat} {xs ys : List Value} {tmp : Obj}
    (hv : Boxed W B 25 v) (hB : B < b0) (hrow : W.ownsRow b0 e size v k xs) (hown : w1.ownsRow b0 e size v' m ys) (hgrow : (W.alloc tmp).grownBy w1 v.ownBlock)
    (hat : v'.ownBlock = v.ownBlock ∨ v'.ownBlock = some (W.alloc tmp).heap.size) : KeepBut B Lr W (w1.setCell ⟨B, 0, none⟩ v') := by
  intro u hu hcu
  obtain ⟨hv1, hv2, hr2, hk2, hblk, hsz2, ho, ht, hou⟩ := box_append hv hB hrow hown hgrow
  obtain rfl : v = u := by
    have h : W.heap[B]? = _ := hv
    rw [show W.heap[B]? = _ from hu] at h
    simpa using h.symm
  refine ⟨v', hv2, cellsRow_of hr2, ?_, hsz2, fun j hj h0 _ hr => ?_⟩
  · rcases hat with h | h
    · exact .inl h
    · exact .inr ⟨_, h, by simp⟩
  · rw [Below.heap_setCell _ _ _ _ h0]
    exact (hgrow.block j (by simp; omega) hr).trans (Below.heap_alloc _ _ _ hj)

/-- What a collecting loop holds between two rounds: a box with a list that owns its row; all that lay ahead of the call as it lay. -/
def Holds2 (w : World) (xs : List ByteArray) (W : World) : Prop :=
  ((∃ v, Boxed W w.heap.size 25 v ∧ W.ownsRow (w.heap.size + 2) 9 1 v xs.length (xs.map Value.string) ∧ True) ∧ Below w.heap.size w W) ∧ w.heap.size + 2 ≤ W.heap.size

theorem holds2_own (w : World) {b : Nat} (hb : w.heap.size ≤ b) : OwnFrom b (Holds2 w) :=
  OwnFrom.and (OwnFrom.and (Own.from (holdsRow_own (w.heap.size + 2) w.heap.size 25 9 1 (fun pre : List ByteArray => pre.length) (fun pre => pre.map Value.string) (fun _ _ => True)) _) (ownFrom_below (Nat.le_refl _) hb))
    (fun _ _ _ _ hs hg _ => Nat.le_trans hs hg.size)

theorem wordsOf_at (n : Nat) (s : ByteArray) (w : World) :
    CallsIn Fence.wide n Try.prog 31 #[.string s] w fun e w' => e = .returned (.func (.func 38) #[] #[.pointer (some ⟨w.heap.size, 0, none⟩)]) ∧ w' = w.alloc (.cells #[.string s] 9) := by
  refine callsIn_wide.2 ?_
  go_enter Try.func31, Try.ntmps31
  go_wp2
  go_ret
  exact ⟨rfl, rfl⟩

/-- The words of a text. -/
def wordsIn (s : ByteArray) : List ByteArray := (left (marked blanks) s 0 0).filter full

theorem words_len (s : ByteArray) : (wordsIn s).length ≤ s.size + 1 := Nat.le_trans (List.length_filter_le _ _) (left_len _ s)

set_option maxRecDepth 100000 in
set_option maxHeartbeats 2000000 in
theorem implWords_in (s : ByteArray) (hs : s.size ≤ 1048576) (hlen : (left (marked blanks) s 0 0).length ≤ 1048577) (w : World) :
    CallsIn Fence.wide 5 Try.prog 13 #[.string s] w (ToldStr w (wordsIn s)) := by
  obtain ⟨i0, hi, hz0, hz1, hz2⟩ := info_parts infoStr
  refine callsIn_of_wp_marks Try.func13 rfl trivial ?_ rfl
  simp only [Try.ntmps13, List.size_toArray, List.length_cons, List.length_nil, Nat.reduceAdd, Nat.reduceSub, Array.replicate_succ, Array.replicate_zero, List.push_toArray, List.append_toArray, List.nil_append, List.cons_append]
  gi_wp2_with fail
  refine ⟨trivial, ?_⟩
  refine (wordsOf_at _ _ _).mono ?_
  rintro e w' ⟨rfl, rfl⟩
  have bO := Boxed.new w 25 (.slice none 0 0)
  have b1 := Boxed.new (w.alloc (.cells #[.slice none 0 0] 25)) 9 (.string s)
  simp only [World.size_alloc] at b1
  have hB0 : Below w.heap.size w ((w.alloc (.cells #[.slice none 0 0] 25)).alloc (.cells #[.string s] 9)) := ((Below.refl _ w).alloc (Nat.le_refl _) _).alloc (by simp) _
  have XX := Lib.hid (And.intro bO (And.intro b1 hB0))
  clear bO b1 hB0
  gi_wp2_with fail
  refine rangeO (α := ByteArray) (by decide) (gf := 38) (lb := #[.pointer (some ⟨w.heap.size + 1, 0, none⟩)]) rfl (enters_of Try.func38 (by kernel_rfl) rfl)
    (words_stops w.heap.size (w.heap.size + 1) s (by omega) _ XX.out.2.1 (XX.out.1.alloc _) (by omega)) KeepBut.trans (fun W o o' hl ho => KeepBut.put (by simp; omega) W o o' hl ho) (fun _ => rfl)
    (Holds2 w) (holds2_own w (by simp; omega))
    ⟨⟨⟨_, XX.out.1.alloc _, World.ownsRow_nil _ _ _ _, trivial⟩, XX.out.2.2⟩, by simp⟩
    (fun x => { tmps := #[.string s, undef, .slice none 0 0, .pointer (some ⟨w.heap.size, 0, none⟩), .string x, .string s, .func (.func 38) #[] #[.pointer (some ⟨w.heap.size + 1, 0, none⟩)], .string x, undef, undef, undef, undef, undef], defers := [] }) ?assign ?body ?done
  case assign =>
    intro l x W K hK
    gi_wp2
    exact hK
  case body =>
    rintro l pre x W ⟨⟨⟨v, hv, hrow, _⟩, hB⟩, hsz⟩ hlt
    have hc := hv.cell
    have hpl : pre.length < 1048577 := by omega
    gi_wp2_with (gi_at_builtin; refine wpListIn_append_own_at _ rfl _ _ 25 rfl (w.heap.size + 2) 9 i0 (.string ⟨#[]⟩) 1 16 Try.underlying25 hi hz0 hz1 hz2 rfl (by decide) _ _ _ rfl (hrow.alloc _) ⟨W.heap.size, 0, none⟩ 1 1 [.string x] rfl rfl (cell_one_new _ _ _) (by simp [Value.oneCell']) (by unfold maxLen; omega) (by omega) (by simp; omega) ?_; intro v' w1 hown' hgrow _ hat; have KB := Lib.hid (fun Lr => keepBut_append (Lr := Lr) hv (by omega) hrow hown' hgrow hat); obtain ⟨g', cap', rfl⟩ := ownsRow_succ hown'; obtain ⟨hv1, hv2, hr2, hk2, hblk, hsz2, ho, ht, hou⟩ := box_append hv (by omega) hrow hown' hgrow; have hc1 := hv1.cell; have hf1 := hv1.frozen)
    refine ⟨hk2.from _, KB.out _, ⟨⟨_, hv2, by simpa using hr2, trivial⟩, ?_⟩, by omega⟩
    exact hB.trans ⟨ho, ht, hou, hsz2, fun k hk => hblk k (by omega) (by have := hB.size; omega) (by omega)⟩
  case done =>
    rintro D ys W hD rfl ⟨⟨⟨v, hv, hrow, _⟩, hB⟩, hsz⟩ hK
    have hc := hv.cell
    gi_wp2
    refine ⟨by simp, .inl ⟨_, _, rfl, run_takeDeferred hK, ?_⟩⟩
    exact ⟨_, results_tmp rfl _ _ _, v, rfl, ownsRow_putObj (ownsRow_base hrow (by omega)) _ hK rfl, hB.trans (belowK_b (w := w) (Nat.le_refl _) W D _ _ (by simp at hD; omega) hK rfl rfl)⟩

theorem implWords (s : ByteArray) (hs : s.size ≤ 1048576) (w : World) : Calls Try.prog 13 #[.string s] w (ToldStr w (wordsIn s)) :=
  callsIn_wide.1 (implWords_in s hs (Nat.le_trans (left_len _ s) (by omega)) w)
end Go.Proofs.Ytibimjbnhgehoaa
