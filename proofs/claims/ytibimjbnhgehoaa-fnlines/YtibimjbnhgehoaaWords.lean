/- The program's Words: the parts between blanks and bytes 9 that aren't empty, in a list of its own. -/
import Derived.Test.YtibimjbnhgehoaaParts
import Derived.Test.YtibimjbnhgehoaaRangeO
import Derived.Test.YtibimjbnhgehoaaLines
namespace Go.Proofs.Ytibimjbnhgehoaa
open Go.RowKit Go.Shelf
set_option linter.unusedVariables false
attribute [local go_sem] Oper.semAt_some

/-- Whether a text has bytes. -/
def full (x : ByteArray) : Bool := !x.toList.isEmpty

/-- A list's row, where it has one, is a block of cells. -/
def CellsRow (W : World) (v : Value) : Prop := ∀ g, v.ownBlock = some g → ∃ cs T fz, W.heap[g]? = some (.cells cs T fz)

/-- Block B0 is a box of a list; blocks other than it, the loop's record and the list's row are as they were; a new row is a new block. -/
def KeepBut (B0 Lr : Nat) (W W' : World) : Prop :=
  ∀ v, Boxed W B0 25 v → CellsRow W v → ∃ v', Boxed W' B0 25 v' ∧ CellsRow W' v' ∧ (v'.ownBlock = v.ownBlock ∨ ∃ g, v'.ownBlock = some g ∧ W.heap.size ≤ g) ∧ W.heap.size ≤ W'.heap.size ∧
    ∀ k, k < W.heap.size → k ≠ B0 → k ≠ Lr → some k ≠ v.ownBlock → W'.heap[k]? = W.heap[k]?

theorem KeepBut.trans {B0 Lr : Nat} {A B C : World} (h : KeepBut B0 Lr A B) (k : KeepBut B0 Lr B C) : KeepBut B0 Lr A C := by
  intro v hv hc
  obtain ⟨v1, hv1, hc1, hn1, hs1, hb1⟩ := h v hv hc
  obtain ⟨v2, hv2, hc2, hn2, hs2, hb2⟩ := k v1 hv1 hc1
  refine ⟨v2, hv2, hc2, ?_, Nat.le_trans hs1 hs2, fun j hj h0 hl hr => ?_⟩
  · rcases hn2 with e | ⟨g, e, hg⟩
    · rcases hn1 with e1 | ⟨g, e1, hg⟩
      · exact Or.inl (e.trans e1)
      · exact Or.inr ⟨g, e.trans e1, hg⟩
    · exact Or.inr ⟨g, e, by omega⟩
  · refine (hb2 j (by omega) h0 hl ?_).trans (hb1 j hj h0 hl hr)
    intro e
    rcases hn1 with e1 | ⟨g, e1, hg⟩
    · exact hr (e.trans e1)
    · rw [e1] at e; cases e; omega

theorem KeepBut.put {B0 Lr : Nat} (hne : B0 ≠ Lr) (W : World) (o o' : Obj) (hl : W.heap[Lr]? = some o) (ho : o.isCells = false) : KeepBut B0 Lr W (W.putObj Lr o') := by
  intro v hv hc
  refine ⟨v, (World.putObj_heap_other hne).trans hv, fun g hg => ?_, Or.inl rfl, by simp, fun k _ _ hl _ => World.putObj_heap_other hl⟩
  obtain ⟨cs, T, fz, h⟩ := hc g hg
  have : g ≠ Lr := fun e => by subst e; rw [h] at hl; cases hl; cases ho
  exact ⟨cs, T, fz, (World.putObj_heap_other this).trans h⟩

/-- Boxes that no list's row is. -/
def Apart (B0 : Nat) (ks : List Nat) (W : World) : Prop := ∃ v, Boxed W B0 25 v ∧ CellsRow W v ∧ ∀ k ∈ ks, k ≠ B0 ∧ some k ≠ v.ownBlock

theorem apart_own (B0 : Nat) (ks : List Nat) : Own (fun (_ : List ByteArray) W => Apart B0 ks W) := by
  rintro s X Y row ⟨v, hv, hc, h⟩ hg hrow
  refine ⟨v, hv.kept hg (fun e' => ?_), fun g hgv => ?_, h⟩
  · obtain ⟨o, ho, hc⟩ := hrow B0 e'.symm
    rw [show X.heap[B0]? = _ from hv] at ho; cases ho; cases hc
  · obtain ⟨cs, T, fz, hx⟩ := hc g hgv
    refine ⟨cs, T, fz, (hg.block g (Array.getElem?_eq_some_iff.1 hx).1 (fun e' => ?_)).trans hx⟩
    obtain ⟨o, ho, hc⟩ := hrow g e'.symm
    rw [hx] at ho; cases ho; cases hc

theorem Apart.keep {B0 Lr B : Nat} {ks : List Nat} {W W' : World} (h : Apart B0 ks W) (hk : KeepBut B0 Lr W W') (hlt : ∀ k ∈ ks, k < W.heap.size ∧ k ≠ Lr) (h0 : B0 < B) (hl : Lr < B) :
    Apart B0 ks W' ∧ (∀ k ∈ ks, W'.heap[k]? = W.heap[k]?) ∧ KeepsFrom B W W' := by
  obtain ⟨v, hv, hc, h1⟩ := h
  obtain ⟨v', hv', hc', hn, hs, hb⟩ := hk v hv hc
  refine ⟨⟨v', hv', hc', fun k hm => ⟨(h1 k hm).1, ?_⟩⟩, fun k hm => hb k (hlt k hm).1 (h1 k hm).1 (hlt k hm).2 (h1 k hm).2, ⟨hs, fun k o hk ho hcl => ?_⟩⟩
  · rcases hn with e | ⟨g, e, hg⟩
    · rw [e]; exact (h1 k hm).2
    · rw [e]; intro e2; cases e2; have := (hlt _ hm).1; omega
  · refine (hb k (Array.getElem?_eq_some_iff.1 ho).1 (by omega) (by omega) (fun e => ?_)).trans ho
    obtain ⟨cs, T, fz, hx⟩ := hc k e.symm
    rw [hx] at ho; cases ho; cases hcl

theorem Boxed.same {W W' : World} {B : Nat} {t : TypeId} {v : Value} (h : Boxed W B t v) (e : W'.heap[B]? = W.heap[B]?) : Boxed W' B t v := e.trans h

def blanks : ByteArray := ⟨#[32, 9]⟩

set_option maxRecDepth 100000 in
set_option maxHeartbeats 2000000 in
/-- The iterator over words: the parts that aren't empty. -/
theorem words_stops (B0 Bs : Nat) (s : ByteArray) (hsz : s.size ≤ 2000000) (w : World) (hs : Boxed w Bs 9 (.string s)) (h0 : Boxed w B0 25 (.slice none 0 0)) (hne : Bs ≠ B0) :
    SeqO 4 Try.prog 38 #[.pointer (some ⟨Bs, 0, none⟩)] (fun x : ByteArray => #[Value.string x]) (KeepBut B0 (w.heap.size + 1))
      (fun ys => ys = (left (marked blanks) s 0 0).filter full) (left (marked blanks) s 0 0).length w := by
  intro l J W hW hW2 hJ hY hj0
  have bs : Boxed W Bs 9 (.string s) := (hW.block Bs hs.lt).trans hs
  have b0 : Boxed W B0 25 (.slice none 0 0) := (hW.block B0 h0.lt).trans h0
  have hB0 := h0.lt
  have hcs : ∀ o, (W.alloc o).cell? ⟨Bs, 0, none⟩ = some (.string s) := fun o => (bs.alloc o).cell
  have LL := Lib.hid (And.intro bs b0)
  clear bs b0 hs h0
  refine callsIn_of_wp_marks Try.func38 rfl trivial ?_ rfl
  simp only [Try.ntmps38, List.size_toArray, List.length_cons, List.length_nil, Nat.reduceAdd, Nat.reduceSub, Array.replicate_succ, Array.replicate_zero, List.push_toArray, List.append_toArray, List.nil_append, List.cons_append]
  gi_wp2_with fail
  refine wpIn_scope ?_
  gi_wp2_with fail
  refine wpIn_label ?_
  gi_wp2_with fail
  refine ⟨trivial, ?_⟩
  refine (partsBetween_at _ _ _ _).mono ?_
  rintro e w' ⟨rfl, rfl⟩
  have b1 := Boxed.new W 33 (.func (.yield l) #[] #[])
  have b2 := Boxed.new (W.alloc (.cells #[.func (.yield l) #[] #[]] 33)) 9 (.string s)
  have b3 := Boxed.new ((W.alloc (.cells #[.func (.yield l) #[] #[]] 33)).alloc (.cells #[.string s] 9)) 9 (.string blanks)
  simp only [World.size_alloc] at b2 b3
  have XX := Lib.hid (And.intro b1 (And.intro b2 b3))
  clear b1 b2 b3
  gi_wp2_with fail
  refine wpIn_rangeFunc_ownG (α := ByteArray) rfl (by decide) (gf := 36) (lb := #[.pointer (some ⟨W.heap.size + 1, 0, none⟩), .pointer (some ⟨W.heap.size + 1 + 1, 0, none⟩)]) rfl trivial (enters_of Try.func36 (by kernel_rfl) rfl)
    (parts_stops 3 (W.heap.size + 1) (W.heap.size + 1 + 1) s blanks hsz _ (XX.out.2.1.alloc _) XX.out.2.2) KeepTwo.trans (keepTwo_put (by simp) (by simp)) (Below.refl _ _) (fun _ => rfl)
    (fun pre X => J (pre.filter full) X ∧ Apart B0 [W.heap.size, W.heap.size + 1, W.heap.size + 1 + 1] X ∧ Boxed X W.heap.size 33 (.func (.yield l) #[] #[]) ∧ Boxed X (W.heap.size + 1) 9 (.string s) ∧ Boxed X (W.heap.size + 1 + 1) 9 (.string blanks))
    (fun _ _ _ => False)
    (OwnFrom.and (fun pre X Y row hs hg hr => hJ _ X Y row hs hg (fun r e => ⟨by have := (hr r e).1; simp at this; omega, (hr r e).2⟩)) (OwnFrom.and (Own.from (apart_own _ _) _) (OwnFrom.and (Own.from (boxed_own _ _ (fun _ => _)) _) (OwnFrom.and (Own.from (boxed_own _ _ (fun _ => _)) _) (Own.from (boxed_own _ _ (fun _ => _)) _)))))
    (fun _ _ _ _ _ hs _ _ => hs)
    ⟨hJ _ _ _ none (hJ _ _ _ none (hJ _ _ _ none hj0 (World.grownBy_alloc _ _ _) (by simp)) (World.grownBy_alloc _ _ _) (by simp)) (World.grownBy_alloc _ _ _) (by simp),
      ⟨_, ((LL.out.2.alloc _).alloc _).alloc _, (fun g hg => by cases hg), fun k hk => ⟨by simp at hk; omega, by simp [Value.ownBlock]⟩⟩, (XX.out.1.alloc _).alloc _, XX.out.2.1.alloc _, XX.out.2.2⟩
    (fun x => { tmps := #[.func (.yield l) #[] #[], .pointer (some ⟨Bs, 0, none⟩), .pointer (some ⟨W.heap.size, 0, none⟩), .string x, .string s, .func (.func 36) #[] #[.pointer (some ⟨W.heap.size + 1, 0, none⟩), .pointer (some ⟨W.heap.size + 1 + 1, 0, none⟩)], .string x, undef, undef, undef, undef, undef, undef, undef, undef], defers := [] }) ?assign ?body ?done ?stop
  case assign =>
    intro l x W K hK
    gi_wp2
    exact hK
  case body =>
    rintro l' pre x X ⟨hjx, hap, hb1, hb2, hb3⟩ hlt
    have hc1 := hb1.cell
    have BB := Lib.hid (And.intro hjx (And.intro hap (And.intro hb1 (And.intro hb2 hb3))))
    clear hjx hap hb1 hb2 hb3
    by_cases hx : x.toList = []
    · have hf : (pre ++ [x]).filter full = pre.filter full := by rw [List.filter_append]; simp [full, hx]
      have HF := Lib.hid hf
      clear hf
      gi_wp2
      exact ⟨KeepsFrom.refl _ _, ⟨rfl, rfl⟩, by rw [HF.out]; exact BB.out.1, BB.out.2⟩
    · have he : x.toList.isEmpty = false := by rw [List.isEmpty_eq_false_iff]; exact hx
      have hf : (pre ++ [x]).filter full = pre.filter full ++ [x] := by rw [List.filter_append]; simp [full, hx]
      have HF := Lib.hid hf
      clear hf hx
      obtain ⟨fn, tmps, assign, body, hy, hR⟩ := yield_any 1 l' (hY (pre.filter full) x X BB.out.1 (Nat.lt_of_le_of_lt (List.length_filter_le _ _) hlt))
      gi_wp2
      refine hR.mono ?_
      rintro e X3 ⟨rfl, hj3, hk3⟩
      have hz := BB.out.2.2.2.2.lt
      obtain ⟨ap3, eq3, kf3⟩ := BB.out.2.1.keep (B := W.heap.size + 3) hk3 (fun k hk => by simp at hk; omega) (by omega) (by omega)
      have Z := Lib.hid (And.intro hj3 (And.intro ap3 (And.intro eq3 kf3)))
      clear hj3 hk3 ap3 eq3 kf3
      gi_wp2
      have Zo := Z.out
      refine ⟨by simpa using Zo.2.2.2, ⟨Zo.2.2.1 _ (by simp), Zo.2.2.1 _ (by simp)⟩, by rw [HF.out]; exact Zo.1, Zo.2.1, (Zo.2.2.1 _ (by simp)).trans BB.out.2.2.1, (Zo.2.2.1 _ (by simp)).trans BB.out.2.2.2.1, (Zo.2.2.1 _ (by simp)).trans BB.out.2.2.2.2⟩
  case done =>
    rintro D ys X hD rfl ⟨hjx, hap, hb1, hb2, hb3⟩ hK
    gi_wp2
    rw [Exit.noGoto_normal]
    refine ⟨by simp, .inl ⟨_, _, rfl, run_takeDeferred hK, ?_⟩⟩
    refine ⟨_, results_none rfl _ _ _, ⟨_, rfl⟩, _, rfl, ?_⟩
    exact hJ.putObj _ hjx (by simp at hD; omega) hK rfl
  case stop =>
    rintro D c pre W _ _ h _
    exact h.elim
end Go.Proofs.Ytibimjbnhgehoaa
