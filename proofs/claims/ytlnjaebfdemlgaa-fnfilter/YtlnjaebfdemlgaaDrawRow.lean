/- The model's draw of a row's name; what a cursor keeps. -/
import Derived.Test.YtlnjaebfdemlgaaDraws
namespace Go.Proofs.Ytlnjaebfdemlgaa
open Go.RowKit
set_option linter.unusedVariables false
theorem grown_two {w w1 w2 : World} {p : Nat} (h : w.grownBy w1 (some p)) (h2 : w1.grownBy w2 (some p)) : w.grownBy w2 (some p) :=
  ⟨h2.os.trans h.os, h2.tape.trans h.tape, h2.output.trans h.output, Nat.le_trans h.size h2.size, fun k hk hne => (h2.block k (by have := h.size; omega) hne).trans (h.block k hk hne)⟩
/-- A block that isn't the cursor's is kept. -/
theorem grown_blk {w w' : World} {p g : Nat} {o : Obj} (hg : w.grownBy w' (some p)) (h : w.heap[g]? = some o) (hne : g ≠ p) : w'.heap[g]? = some o := (hg.block g (Array.getElem?_eq_some_iff.1 h).1 (by simpa using hne)).trans h
theorem grown_set1 {w w' : World} {p g k : Nat} (h : w.grownBy w' (some p)) (hg : w.heap.size ≤ g) (v : Value) : w.grownBy (w'.setCell ⟨g, k, none⟩ v) (some p) := by
  have h5 : Below w.heap.size w' (w'.setCell ⟨g, k, none⟩ v) := (Below.refl w.heap.size w').setCell hg v
  exact ⟨h5.os.trans h.os, h5.tape.trans h.tape, h5.output.trans h.output, Nat.le_trans h.size h5.size, fun k hk hne => (h5.block k hk).trans (h.block k hk hne)⟩
theorem grown_new1 {w w' : World} {p : Nat} (h : w.grownBy w' (some p)) (o : Obj) : w.grownBy (w'.alloc o) (some p) := grown_two h (World.grownBy_alloc w' o (some p))
/-- A cursor's row lies below what is made behind it. -/
theorem CurAt.rowlt {w : World} {T p : Nat} {a : Option Addr} {len cap : Nat} {zs : List Int} {i : Nat} {h : Int} (c : CurAt w T p a len cap zs i h) : ∀ x, a = some x → x.block < w.heap.size ∨ len = 0 := by
  intro x hx
  rcases Nat.eq_zero_or_pos len with h0 | hpos
  · exact .inr h0
  · obtain ⟨b, off, hb, hlt, _⟩ := c.bytes.2 0 hpos
    rw [hb] at hx
    cases hx
    exact .inl hlt
theorem CurAt.set {w w' : World} {T p : Nat} {a : Option Addr} {len cap : Nat} {zs : List Int} {i : Nat} {h : Int} (c : CurAt w' T p a len cap zs i h) {B : Nat} (hr : ∀ x, a = some x → x.block < B ∨ len = 0) (hp : p < B) {g : Nat} (hg : B ≤ g) (k : Nat) (v : Value) : CurAt (w'.setCell ⟨g, k, none⟩ v) T p a len cap zs i h :=
  c.kept (grown_set w' g k v) (by simp; omega) (fun x hx => by rcases hr x hx with h | h; exact .inl (by simp; omega); exact .inr h)
theorem CurAt.new {w : World} {T p : Nat} {a : Option Addr} {len cap : Nat} {zs : List Int} {i : Nat} {h : Int} (c : CurAt w T p a len cap zs i h) (o : Obj) : CurAt (w.alloc o) T p a len cap zs i h := c.kept (World.grownBy_alloc _ _ none) (by simp) (fun _ _ => Or.inl (by simp))
def rowTexts : List ByteArray := [⟨#[97]⟩, ⟨#[97, 112, 112, 108, 101]⟩, ⟨#[97, 112, 112, 108, 101, 115]⟩, ⟨#[98]⟩, ⟨#[114, 111, 119, 49]⟩, ⟨#[114, 111, 119, 49, 48]⟩, ⟨#[114, 111, 119, 50]⟩, ⟨#[122, 111, 111]⟩]
set_option maxHeartbeats 1000000 in
theorem l04Row_at (T p : Nat) (a : Option Addr) (len cap : Nat) (zs : List Int) (i : Nat) (h : Int) (w : World) (cu : CurAt w T p a len cap zs i h) :
    Calls Try.prog 41 #[.pointer (some ⟨p, 0, none⟩)] w (SomeStr (fun x => x.size ≤ 40) T p a len cap zs w) := by
  have HC := Lib.hid cu
  clear cu
  go_enter Try.func41, Try.ntmps41
  go_wp2_with fail
  refine (l01Pick_at (fun x => x.size ≤ 40) T p a len cap zs i h w.heap.size 8 8 _ (HC.out.new _) (by omega) (by omega) (by simp) (by have := HC.out.lt; omega) (new_strs w rowTexts 9 (by decide))).mono ?_
  rintro e w3 ⟨x, i3, h3, hx, rfl, c3, g3⟩
  have C3 := Lib.hid c3
  clear c3
  go_wp2
  go_ret
  exact ⟨x, i3, h3, hx, rfl, C3.out, grown_two (World.grownBy_alloc _ _ _) g3⟩
end Go.Proofs.Ytlnjaebfdemlgaa
