/- The model's draws of numbers. -/
import Derived.Test.YtkhpgomgaimhkaaOnce
import Derived.Test.YtkhpgomgaimhkaaPickInt
import Derived.Test.YtkhpgomgaimhkaaPickStr
namespace Go.Proofs.Ytkhpgomgaimhkaa
open Go.RowKit
set_option linter.unusedVariables false

/-- A number of 64 bits. -/
def I64 (x : Int) : Prop := -9223372036854775808 ≤ x ∧ x ≤ 9223372036854775807

set_option maxHeartbeats 400000 in
theorem l01Int_at (T p : Nat) (a : Option Addr) (len cap : Nat) (zs : List Int) (i : Nat) (h : Int) (w : World) (cu : CurAt w T p a len cap zs i h) :
    Calls Try.prog 45 #[.pointer (some ⟨p, 0, none⟩)] w (SomeInt I64 T p a len cap zs w) := by
  have HC := Lib.hid cu
  clear cu
  go_enter Try.func45, Try.ntmps45
  go_wp2_with fail
  refine (l01Below_any _ _ _ _ _ _ _ _ _ _ HC.out (by omega) (by omega)).mono ?_
  rintro e w1 ⟨y, i1, h1, hy0, hy1, rfl, c1, g1⟩
  have C1 := Lib.hid c1
  clear c1
  go_wp2_with fail
  refine (l01PickInt_at I64 T p a len cap zs i1 h1 w1.heap.size 14 14 _ (C1.out.kept (World.grownBy_alloc w1 _ none) (by simp) (fun _ _ => Or.inl (by simp))) (by omega) (by omega) (by simp) (by have := C1.out.lt; omega) ?_).mono ?_
  · exact new_ints w1 [0, 1, -1, 127, 128, 16383, 16384, 65536, 999999999, 1000000000, 4611686018427387903, 9223372036854775807, -9223372036854775808, y] 3 (by
      intro x hx
      simp only [List.mem_cons, List.not_mem_nil, or_false] at hx
      unfold I64
      omega)
  · rintro e w2 ⟨x, i2, h2, hx, rfl, c2, g2⟩
    have C2 := Lib.hid c2
    clear c2
    go_wp2
    go_ret
    exact ⟨x, i2, h2, hx, rfl, C2.out, (g1.trans ((World.grownBy_alloc w1 _ none).but _)).trans g2⟩

/-- A number of 64 bits that is drawn by a code. -/
def IntOf (w : World) (e : Ending) (w' : World) : Prop := ∃ x : Int, I64 x ∧ e = .returned (.int .i64 x) ∧ Below w.heap.size w w'
/-- A short text that is drawn by a code. -/
def TextOf (w : World) (e : Ending) (w' : World) : Prop := ∃ s : ByteArray, s.size ≤ 1000 ∧ e = .returned (.string s) ∧ Below w.heap.size w w'

theorem grown_of_below {w w' : World} (h : Below w.heap.size w w') : w.grownBy w' none := ⟨h.os, h.tape, h.output, h.size, fun j hj _ => h.block j hj⟩
theorem CurAt.below {w w' : World} {T p : Nat} {a : Option Addr} {len cap : Nat} {zs : List Int} {i : Nat} {h : Int} (c : CurAt w T p a len cap zs i h) (hb : Below w.heap.size w w') : CurAt w' T p a len cap zs i h :=
  c.kept (grown_of_below hb) (by simp) (fun _ _ => Or.inl (by simp))
theorem below_bytes {w w1 : World} {a : Option Addr} {len : Nat} {zs : List Int} (hr : Bytes w w.heap.size a len zs) (hb : Below w.heap.size w w1) : Bytes w1 w1.heap.size a len zs := by
  refine ⟨hr.1, fun k hk => ?_⟩
  obtain ⟨b, off, ha, hlt, hne, hc, hr2⟩ := hr.2 k hk
  have := hb.size
  exact ⟨b, off, ha, by omega, by omega, (hb.cell (p := ⟨b, off + k, none⟩) hlt).trans hc, hr2⟩
end Go.Proofs.Ytkhpgomgaimhkaa
