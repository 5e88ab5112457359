/- A range over an iterator that writes into a block of its own: what stays while it does, and a round. -/
import Derived.RangeFuncNested
import Derived.Test.YtgonnibakkabjaaProg
namespace Go.Proofs.Ytgonnibakkabjaa
open Go.RowKit
set_option linter.unusedVariables false

/-- What stays while blocks of one type, made from a bound on, are written, and others are made. -/
def AbidesT {α : Type} (T : TypeId) (B : Nat) (J : List α → World → Prop) : Prop :=
  ∀ s W W' row, J s W → W.grownBy W' row → (∀ r, row = some r → B ≤ r ∧ ∃ cs fz, W.heap[r]? = some (Obj.cells cs T fz)) → J s W'
theorem keptT {T : TypeId} {W W' : World} {row : Option Nat} (hg : W.grownBy W' row) (hr : ∀ r, row = some r → ∃ cs fz, W.heap[r]? = some (Obj.cells cs T fz)) {k : Nat} {o : Obj} (hk : W.heap[k]? = some o) (hn : ∀ cs fz, o ≠ .cells cs T fz) : W'.heap[k]? = some o :=
  (hg.block k (Array.getElem?_eq_some_iff.1 hk).1 (fun e => by
    obtain ⟨cs, fz, h⟩ := hr k e.symm
    rw [hk] at h
    cases h
    exact hn _ _ rfl)).trans hk
/-- How a round's body ends: it goes on, or it returns. -/
def RoundEnd (l : Nat) (r : Loop) (G S : World → Prop) : Exit → Act → World → Prop
  | .normal, _, W => W.heap[l]? = some (.loop { r with state := .busy }) ∧ G (W.putObj l (.loop { r with state := .ready, pending := none }))
  | .ret, _, W => W.heap[l]? = some (.loop { r with state := .busy }) ∧ S (W.putObj l (.loop { r with state := .done, pending := some .ret }))
  | _, _, _ => False
theorem yield_at {F : Fence} {n l : Nat} {P : Program} {r : Loop} {args : Array Value} {W : World} {G S : World → Prop} (hl : W.heap[l]? = some (.loop r)) (hs : r.state = .ready) (hp : args.size = r.params.size) (hF : F.fn r.fn)
    (h : r.assign.wpIn (F.inRound l) n P (Exit.then (fun a1 W1 => W1.heap[l]? = some (.loop r) ∧ r.body.wpIn (F.inRound l) n P (RoundEnd l r G S) a1 (W1.putObj l (.loop { r with state := .busy }))) (fun _ _ _ => False))
      { tmps := (r.params.zip args).foldl (fun tmps (t, a) => tmps.setIfInBounds t a) r.tmps, defers := [] } W) :
    YieldAt F n P l args W fun e W' => (e = .returned (.bool true) ∧ G W') ∨ (e = .returned (.bool false) ∧ S W') := by
  refine ⟨_, _, _, _, run_yield hl hp, roundIn_of_wpIn hF (wpIn_mono h ?_)⟩
  intro e a1 W1 h1
  cases e with
  | normal =>
    obtain ⟨h1, h2⟩ := h1
    refine ⟨_, run_beginRound h1 hs, wpIn_mono h2 ?_⟩
    intro e2 a2 W2 h3
    cases e2 with
    | normal => exact ⟨_, _, run_endRound (P := P) none h3.1, .inl ⟨rfl, h3.2⟩⟩
    | ret => exact ⟨_, _, run_endRound (P := P) (some .ret) h3.1, .inr ⟨rfl, h3.2⟩⟩
    | exit _ => exact h3.elim
    | goto _ => exact h3.elim
    | panic _ => exact h3.elim
    | outgrown => exact h3.elim
  | exit _ => exact h1.elim
  | ret => exact h1.elim
  | goto _ => exact h1.elim
  | panic _ => exact h1.elim
  | outgrown => exact h1.elim
/-- The same, the record's parts by their names. -/
theorem yield_of {F : Fence} {n l : Nat} {P : Program} {r : Loop} {ps : Array Tmp} {assign body : Code} {tmps : Array Value} {args : Array Value} {W : World} {G S : World → Prop} (hps : r.params = ps) (hra : r.assign = assign) (hrb : r.body = body) (hrt : r.tmps = tmps) (hl : W.heap[l]? = some (.loop r)) (hs : r.state = .ready) (hp : args.size = ps.size) (hF : F.fn r.fn)
    (h : assign.wpIn (F.inRound l) n P (Exit.then (fun a1 W1 => W1.heap[l]? = some (.loop r) ∧ body.wpIn (F.inRound l) n P (RoundEnd l r G S) a1 (W1.putObj l (.loop { r with state := .busy }))) (fun _ _ _ => False))
      { tmps := (ps.zip args).foldl (fun tmps (t, a) => tmps.setIfInBounds t a) tmps, defers := [] } W) :
    YieldAt F n P l args W fun e W' => (e = .returned (.bool true) ∧ G W') ∨ (e = .returned (.bool false) ∧ S W') := by
  subst hps hra hrb hrt
  exact yield_at hl hs hp hF h
/-- The statement: the iterator is called with the loop's record laid; it returns, and the rounds have ended, or one of them has returned. -/
theorem range_at {F : Fence} {n : Nat} {P : Program} {g : Operand} {ps : Array Tmp} {assign body : Code} {Q : Exit → Act → World → Prop} {a : Act} {w : World} (hro : F.round = none) (h1 : 1 ≤ n) {gf : Nat} {lb : Array Value} (hg : a.eval g = .func (.func gf) #[] lb) (hFg : F.fn gf)
    (eg : ∀ args w, (callFunc gf args).run P w = .ok (.enter gf args) w)
    (h : ∀ (r : Loop), F.fn r.fn → r.state = .ready → r.pending = none → r.tmps = a.tmps → r.params = ps → r.assign = assign → r.body = body →
      CallsIn F (n - 1) P gf (#[.func (.yield (w.heap.size + 1)) #[] #[]] ++ lb) ((w.alloc (.deferred (some []))).alloc (.loop r)) fun e W => (∃ v, e = .returned v) ∧
        ((W.heap[w.heap.size + 1]? = some (.loop r) ∧ Q .normal { a with defers := { target := .collected w.heap.size, args := #[] } :: a.defers } (W.putObj (w.heap.size + 1) (.loop { r with state := .exhausted }))) ∨
         (W.heap[w.heap.size + 1]? = some (.loop { r with state := .done, pending := some .ret }) ∧ Q .ret { a with defers := { target := .collected w.heap.size, args := #[] } :: a.defers } (W.putObj (w.heap.size + 1) (.loop { r with state := .exhausted, pending := some .ret }))))) :
    (Code.rangeFunc g ps assign body).wpIn F n P Q a w := by
  refine wpIn_rangeFunc (fun fn hfn => ?_)
  have hc := h { state := .ready, pending := none, fn, tmps := a.tmps, params := ps, assign, body, defers := w.heap.size } hfn rfl rfl rfl rfl rfl rfl
  rw [hro]
  refine ⟨_, _, _, { target := .fn (.func gf) lb, args := #[.func (.yield (w.heap.size + 1)) #[] #[]] }, ((w.alloc (.deferred (some []))).alloc (.loop { state := .ready, pending := none, fn, tmps := a.tmps, params := ps, assign, body, defers := w.heap.size })), gf, _, _, run_enterLoop_outer _ _ _ _ _, ?_, ?_, ?_, fun _ => h1, hc.mono ?_⟩
  · simp only [resolve, hg]
    simp [go_sem]
  · intro f hf
    simp [Target.leads] at hf
    subst hf
    exact hFg
  · simp [invoke, go_sem, eg]
  · rintro e W ⟨⟨v, rfl⟩, (⟨hl, hq⟩ | ⟨hl, hq⟩)⟩
    · exact ⟨_, _, run_endLoop (P := P) hl (by simp), hq⟩
    · exact ⟨_, _, run_endLoop (P := P) hl (by simp), wpIn_ret hq⟩
end Go.Proofs.Ytgonnibakkabjaa
