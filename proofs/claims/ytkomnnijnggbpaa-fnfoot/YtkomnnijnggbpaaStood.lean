/- Where four bytes stood last: the program's map, as it is filled place by place. -/
import Derived.Test.YtkomnnijnggbpaaProg
import Derived.Test.YtkomnnijnggbpaaZ0
import Derived.Maps.Own
import Derived.Maps.OwnOps
import Derived.Maps.OwnSet
namespace Go.Proofs.Ytkomnnijnggbpaa
open Go.RowKit Go.Maps
open Go.WideMaps (keyOf_string_mk)
set_option linter.unusedVariables false

theorem keyS : Go.Maps.Keyed Try.prog 9 := string_keyed Try.underlying9
theorem zeroI (w : World) : (zeroValue 3).run Try.prog w = .ok (.int .i64 0) w := by kernel_rfl

def StoodAs (D : DataW Unit) (l : List UInt8) (k : Nat) (q : List UInt8) : Prop :=
 (Maps.has D (.string q) = false ∧ ∀ p, p < k → four l p ≠ q) ∨
 (Maps.has D (.string q) = true ∧ ∃ p, p < k ∧ D.atKey (.string q) (.lit (.int .i64 0)) = .lit (.int .i64 p) ∧ four l p = q ∧ ∀ p', p < p' → p' < k → four l p' ≠ q)
theorem stood_nil (l q : List UInt8) : StoodAs (.map []) l 0 q := .inl ⟨rfl, fun p hp => absurd hp (by omega)⟩
theorem stood_put {D : DataW Unit} {l : List UInt8} {k : Nat} (hD : IsMap D) (h : ∀ q, StoodAs D l k q) (q : List UInt8) : StoodAs (D.put (.string (four l k)) (.lit (.int .i64 k))) l (k + 1) q := by
 by_cases e : q = four l k
 · subst e
   right
   refine ⟨has_put_same hD (by trivial) _, k, by omega, atKey_put_same hD (by trivial) _ _, rfl, fun p' h1 h2 => by omega⟩
 · have hne : (Lit.string q) ≠ .string (four l k) := by intro h; cases h; exact e rfl
   rcases h q with ⟨h1, h2⟩ | ⟨h1, p, h2, h3, h4, h5⟩
   · left
     refine ⟨by rw [has_put_other hne]; exact h1, fun p hp => ?_⟩
     by_cases hpk : p = k
     · subst hpk; exact fun h => e h.symm
     · exact h2 p (by omega)
   · right
     refine ⟨by rw [has_put_other hne]; exact h1, p, by omega, by rw [atKey_put_other hne]; exact h3, h4, fun p' h6 h7 => ?_⟩
     by_cases hpk : p' = k
     · subst hpk; exact fun h => e h.symm
     · exact h5 p' h6 (by omega)

def Stood (w : World) (B : Nat) (l : List UInt8) (k : Nat) : Prop := ∃ D : DataW Unit, w.ownsMap Try.prog 9 (plainElem Try.prog 3) B k D ∧ ∀ q, StoodAs D l k q
theorem Stood.block {w : World} {B : Nat} {l : List UInt8} {k : Nat} (h : Stood w B l k) : ∃ es clock, w.heap[B]? = some (.map es clock) := by
 obtain ⟨D, ⟨es, clock, hb, _⟩, _⟩ := h
 exact ⟨es, clock, hb⟩
theorem Stood.lt {w : World} {B : Nat} {l : List UInt8} {k : Nat} (h : Stood w B l k) : B < w.heap.size := by
 obtain ⟨es, clock, hb⟩ := h.block
 exact (Array.getElem?_eq_some_iff.1 hb).1
theorem Stood.keep {w w' : World} {B : Nat} {l : List UInt8} {k : Nat} (h : Stood w B l k) (hb : w'.heap[B]? = w.heap[B]?) : Stood w' B l k := by
 obtain ⟨D, ⟨es, clock, h1, r⟩, h2⟩ := h
 exact ⟨D, ⟨es, clock, hb.trans h1, r⟩, h2⟩
theorem stood_made (w : World) (l : List UInt8) : Stood (w.alloc (.map #[] 0)) w.heap.size l 0 := ⟨_, World.ownsMap_made _ _ _ _, stood_nil l⟩
theorem TRow.noMap {w0 w : World} {v : Value} {xs : List Tok} (t : TRow w0 w v xs) {B : Nat} {es : Array MapEntry} {clock : Nat} (hB : w.heap[B]? = some (.map es clock)) : some B ≠ v.ownBlock := by
 intro e
 rcases t.row.2 with ⟨h0, _⟩ | ⟨g', cap, cur', h1, _, h3, _⟩
 · rw [h0] at e; cases e
 · rw [h1] at e
   cases e
   rw [hB] at h3
   cases h3
theorem TRow.mapped {w0 w w' : World} {v : Value} {xs : List Tok} (t : TRow w0 w v xs) {B : Nat} {es : Array MapEntry} {clock : Nat} (hB : w.heap[B]? = some (.map es clock)) (hBw : w0.heap.size ≤ B) (hg : w.grownBy w' (some B)) : TRow w0 w' v xs := by
 refine ⟨?_, t.below.grown hg t.below.size (fun k hk => by cases hk; exact hBw)⟩
 refine ⟨t.row.1, ?_⟩
 rcases t.row.2 with h2 | ⟨g, cap, cur, h1, h2, h3, r⟩
 · exact .inl h2
 · refine .inr ⟨g, cap, cur, h1, h2, (hg.block g ((Array.getElem?_eq_some_iff.1 h3).1) ?_).trans h3, r⟩
   intro e
   cases e
   rw [hB] at h3
   cases h3

theorem wp_look {w : World} {B k : Nat} {l : List UInt8} (h : Stood w B l k) {ops : Array Oper} {rest : List Oper} {o : Oper} {a : Act} {Q : Exit → Act → World → Prop} (hg : o.guard = none) (m x : Operand) (hop : o.op = Op.lookup 110 m x true)
   (hm : a.eval m = .map (some B)) (q : ByteArray) (hx : a.eval x = .string q) (hq : q.size ≤ 2000)
   (hno : (∀ p, p < k → four l p ≠ q.data.toList) → ∀ c : Int, wpList Try.prog ops Q rest (a.put o.dst (.tuple #[.int .i64 c, .bool false])) w)
   (hyes : ∀ p, p < k → four l p = q.data.toList → (∀ p', p < p' → p' < k → four l p' ≠ q.data.toList) → wpList Try.prog ops Q rest (a.put o.dst (.tuple #[.int .i64 p, .bool true])) w) :
   wpList Try.prog ops Q (o :: rest) a w := by
 obtain ⟨D, hown, ht⟩ := h
 refine wpList_lookup_own_ok_int w hg m x 110 hop 9 3 .i64 keyS Try.underlying110 Try.underlying3 (zeroI _) B k D hm hown _ _ hx (keyOf_string_mk Try.underlying9 (by unfold maxLen; omega)) ?_
 intro c hc hwc
 rcases ht q.data.toList with ⟨h1, h2⟩ | ⟨h1, p, h2, h3, h4, h5⟩
 · rw [h1]; exact hno h2 c
 · rw [h1]
   rw [h3] at hc
   cases hc
   exact hyes p h2 h4 h5
theorem wp_look_no {w : World} {B k : Nat} {l : List UInt8} (h : Stood w B l k) (q : ByteArray) (hn : ∀ p, p < k → four l p ≠ q.data.toList) {ops : Array Oper} {rest : List Oper} {o : Oper} {a : Act} {Q : Exit → Act → World → Prop} (hg : o.guard = none) (m x : Operand) (hop : o.op = Op.lookup 110 m x true)
   (hm : a.eval m = .map (some B)) (hx : a.eval x = .string q) (hq : q.size ≤ 2000)
   (hno : ∀ c : Int, wpList Try.prog ops Q rest (a.put o.dst (.tuple #[.int .i64 c, .bool false])) w) :
   wpList Try.prog ops Q (o :: rest) a w :=
 wp_look h hg m x hop hm q hx hq (fun _ => hno) (fun p h1 h2 _ => absurd h2 (hn p h1))
theorem wp_look_yes {w : World} {B k : Nat} {l : List UInt8} (h : Stood w B l k) (q : ByteArray) (p : Nat) (hp : p < k) (hpq : four l p = q.data.toList) (hlast : ∀ p', p < p' → p' < k → four l p' ≠ q.data.toList) {ops : Array Oper} {rest : List Oper} {o : Oper} {a : Act} {Q : Exit → Act → World → Prop} (hg : o.guard = none) (m x : Operand) (hop : o.op = Op.lookup 110 m x true)
   (hm : a.eval m = .map (some B)) (hx : a.eval x = .string q) (hq : q.size ≤ 2000)
   (hyes : wpList Try.prog ops Q rest (a.put o.dst (.tuple #[.int .i64 p, .bool true])) w) :
   wpList Try.prog ops Q (o :: rest) a w := by
 refine wp_look h hg m x hop hm q hx hq (fun hn => absurd hpq (hn p hp)) (fun p2 h1 h2 h3 => ?_)
 have e : p2 = p := by
   rcases Nat.lt_trichotomy p2 p with h4 | h4 | h4
   · exact absurd hpq (h3 p h4 hp)
   · exact h4
   · exact absurd h2 (hlast p2 h4 h1)
 rw [e]; exact hyes
theorem last_or (l q : List UInt8) : ∀ k, (∀ p, p < k → four l p ≠ q) ∨ ∃ p, p < k ∧ four l p = q ∧ ∀ p', p < p' → p' < k → four l p' ≠ q
 | 0 => .inl (fun p hp => absurd hp (by omega))
 | k + 1 => by
   by_cases e : four l k = q
   · exact .inr ⟨k, by omega, e, fun p' h1 h2 => by omega⟩
   · rcases last_or l q k with h | ⟨p, h1, h2, h3⟩
     · refine .inl (fun p hp => ?_)
       by_cases hpk : p = k
       · rw [hpk]; exact e
       · exact h p (by omega)
     · refine .inr ⟨p, by omega, h2, fun p' h4 h5 => ?_⟩
       by_cases hpk : p' = k
       · rw [hpk]; exact e
       · exact h3 p' h4 (by omega)
theorem wp_stood {w : World} {B k : Nat} {l : List UInt8} (h : Stood w B l k) {ops : Array Oper} {rest : List Oper} {o : Oper} {a : Act} {Q : Exit → Act → World → Prop} (hg : o.guard = none) (m x v : Operand) (hop : o.op = Op.mapUpdate 110 m x v)
   (hm : a.eval m = .map (some B)) (q : ByteArray) (hx : a.eval x = .string q) (hq : q.data.toList = four l k) (hv : a.eval v = .int .i64 k) (hk : k ≤ 2000)
   (hK : ∀ w', Stood w' B l (k + 1) → w.grownBy w' (some B) → wpList Try.prog ops Q rest (a.put o.dst undef) w') :
   wpList Try.prog ops Q (o :: rest) a w := by
 obtain ⟨D, hown, ht⟩ := h
 have hqs : q.size ≤ 4 := by
   have h1 : q.data.toList.length = q.size := by simp
   rw [← h1, hq]
   unfold four
   rw [List.length_take]; omega
 refine wpList_mapUpdate_own w hg m x v 110 hop 9 3 keyS Try.underlying110 _ B k D hm hown (by unfold maxLen; omega) _ _ _ hx hv (keyOf_string_mk Try.underlying9 (by unfold maxLen; omega)) _ [] (plainElem_int Try.underlying3 (WalkArith.wf_i64 (by omega))) ?_
 intro w' h1 h2
 refine hK w' ⟨_, h1, fun q2 => ?_⟩ h2
 rw [hq]
 exact stood_put hown.isMap ht q2
theorem Stood.clear {w : World} {B k : Nat} {l : List UInt8} (h : Stood w B l k) : ∃ w', (∀ ty, (Builtin.clear_ #[110] ty #[.map (some B)]).run Try.prog w = .ok (.tuple #[]) w') ∧ w.grownBy w' (some B) := by
 obtain ⟨es, clock, hb⟩ := h.block
 refine ⟨{ w with heap := w.heap.setIfInBounds B (.map #[] clock) }, fun ty => ?_, ⟨rfl, rfl, rfl, by simp, fun i _ hi => Array.getElem?_setIfInBounds_ne (fun e => hi (by rw [e]))⟩⟩
 have hs : (setObj B (.map #[] clock)).run Try.prog w = .ok () { w with heap := w.heap.setIfInBounds B (.map #[] clock) } := by simp [setObj, Sem.run, hb]
 simp [Builtin.clear_, run_underlying Try.underlying110, MapKept.run_getObj_map hb, hs, Result.andThen]
end Go.Proofs.Ytkomnnijnggbpaa
