/- Rows of numbers that a call makes. -/
import Derived.Test.YtjcgbpjgoacdjaaProg
import Derived.Test.YtjcgbpjgoacdjaaZ0
import Derived.Laws.AppendOwn
import Derived.RangeFuncBox
namespace Go.Proofs.Ytjcgbpjgoacdjaa
open Go.RowKit
set_option linter.unusedVariables false

def i64v (x : Int) : Value := .int .i64 x
def OwnI (B : Nat) (w : World) (v : Value) (xs : List Int) : Prop := w.ownsRow B 3 1 v xs.length (xs.map i64v)
theorem infoInt : (Try.prog.info? 3).map (fun i => (i.zero, i.size, i.bytes)) = some (some (.int .i64 0), 1, 8) := by kernel_rfl
section
variable {B : Nat} {w w' : World} {v : Value} {xs : List Int}
theorem OwnI.form (h : OwnI B w v xs) : ∃ ad cap, v = .slice ad xs.length cap := by
 rcases h.2 with ⟨h0, hn⟩ | ⟨g, cap, cur, h1, _⟩
 · exact ⟨none, 0, by rw [h0, hn]⟩
 · exact ⟨_, _, h1⟩
theorem OwnI.below (h : OwnI B w v xs) (hb : Below w.heap.size w w') : OwnI B w' v xs := by
 refine World.ownsRow.kept h (grown_of_below hb) ?_
 cases hv : v.ownBlock <;> simp
theorem OwnI.new (h : OwnI B w v xs) (o : Obj) : OwnI B (w.alloc o) v xs := World.ownsRow.alloc h o
theorem OwnI.lt (h : OwnI B w v xs) {k : Nat} (hk : v.ownBlock = some k) : B ≤ k ∧ k < w.heap.size := World.ownsRow.lt h k hk
def IntAt (w : World) (a : Option Addr) (n c : Nat) (xs : List Int) : Prop := xs.length = n ∧ n ≤ c ∧ ∀ (k : Nat) (x : Int), xs[k]? = some x → ∃ g, a = some ⟨g, 0, none⟩ ∧ w.cell? ⟨g, k, none⟩ = some (.int .i64 x)
theorem IntAt.below {a : Option Addr} {n c : Nat} (h : IntAt w a n c xs) (hb : Below w.heap.size w w') : IntAt w' a n c xs :=
 ⟨h.1, h.2.1, fun k x hk => by obtain ⟨g, e, hc⟩ := h.2.2 k x hk; exact ⟨g, e, (hb.cell (p := ⟨g, k, none⟩) (cell_lt hc)).trans hc⟩⟩
theorem OwnI.row {a : Option Addr} {n c : Nat} (h : OwnI B w (.slice a n c) xs) : IntAt w a n c xs := by
 rcases h.2 with ⟨h0, hn⟩ | ⟨g, cap, cur, h1, _, hc, hn, _, hs, ht⟩
 · cases h0
   refine ⟨hn, Nat.le_refl _, fun k x hk => ?_⟩
   have := (List.getElem?_eq_some_iff.1 hk).1
   omega
 · cases h1
   refine ⟨rfl, hn, fun k x hk => ⟨g, rfl, ?_⟩⟩
   have hk' := (List.getElem?_eq_some_iff.1 hk).1
   have h2 : w.cell? ⟨g, k, none⟩ = cur[k]? := by simp [World.cell?, hc]
   have h3 : (xs.map i64v)[k]? = some (i64v x) := by rw [List.getElem?_map, hk]; rfl
   rw [← ht, List.getElem?_take, if_pos (by omega)] at h3
   rw [h2, ← Array.getElem?_toList]
   exact h3
end
theorem op_pushI {B : Nat} {w : World} {v : Value} {xs : List Int} (ys : List Int) {ad : Addr} {c : Nat} {o : Oper} {act : Act} {K : Act → World → Prop} {Q : Exit → Act → World → Prop} (s x : Operand)
   (hop : o.op = .call { callee := .builtin .append, args := #[s, x], argTypes := #[33, 33] })
   (hs : act.eval s = v) {m : Nat} (hx : act.eval x = .slice (some ad) m c) (hm : ys.length = m) (hb : ∀ j u, (ys.map i64v)[j]? = some u → w.cell? (ad.add j) = some u) (h : OwnI B w v xs) (hB : B ≤ w.heap.size) (hl : xs.length + ys.length < 4194304)
   (hk : ∀ v' w', OwnI B w' v' (xs ++ ys) → w.grownBy w' v.ownBlock → K (act.put o.dst v') w') : o.wp Try.prog act w K Q := by
 subst hm
 obtain ⟨ti, hti, hz0, hz1, hz2⟩ := info_parts infoInt
 refine wp_append_own _ s x 33 hop B 3 ti (.int .i64 0) 1 8 Try.underlying33 hti hz0 hz1 hz2 rfl (by decide) v xs.length (xs.map i64v) hs h
   ad ys.length c (ys.map i64v) hx (by simp) hb (by simp [i64v, Value.oneCell']) (by unfold maxLen; omega) (by omega) hB ?_
 intro v' w' hown hg _
 refine hk v' w' ?_ hg
 unfold OwnI
 rw [List.length_append, List.map_append]
 exact hown
theorem new_int (w : World) (x : Int) : ∀ j u, ([x].map i64v)[j]? = some u → (w.alloc (.cells #[.int .i64 x] 3)).cell? ((⟨w.heap.size, 0, none⟩ : Addr).add j) = some u := by
 intro j u hj
 have e : (⟨w.heap.size, 0, none⟩ : Addr).add j = ⟨w.heap.size, j, none⟩ := by
   unfold Addr.add; split
   · subst_vars; rfl
   · simp
 rw [e]
 have hb : (w.alloc (.cells #[.int .i64 x] 3)).heap[w.heap.size]? = some (.cells #[.int .i64 x] 3 (0, 0)) := by
   show (w.heap.push _)[w.heap.size]? = _
   simp
 simp only [World.cell?, hb]
 simpa [i64v] using hj
end Go.Proofs.Ytjcgbpjgoacdjaa
