/- Contracts of the program's cursor: what is left of a text, and a part taken from it. -/
import Derived.Test.YtgonnibakkabjabProg
import Derived.Test.YtgonnibakkabjabPureA
namespace Go.Proofs.Ytgonnibakkabjab
open Go.RowKit
set_option linter.unusedVariables false

/-- A cursor over a text, at a place. -/
def RdAt (w : World) (p : Nat) (s : ByteArray) (a : Int) : Prop := w.heap[p]? = some (.cells #[.string s, .int .i64 a] 57 (0, 0))
theorem RdAt.cells {w : World} {p : Nat} {s : ByteArray} {a : Int} (h : RdAt w p s a) :
    w.cell? ⟨p, 0, none⟩ = some (.string s) ∧ w.cell? ⟨p, 1, none⟩ = some (.int .i64 a) ∧ w.frozen? ⟨p, 1, none⟩ = false := by
  unfold RdAt at h
  refine ⟨?_, ?_, ?_⟩ <;> simp [World.cell?, World.frozen?, h]
theorem RdAt.drewN {w : World} {p : Nat} {s : ByteArray} {a : Int} (h : RdAt w p s a) (n : Nat) : RdAt (w.drewN n) p s a := h
theorem RdAt.set {w : World} {p : Nat} {s : ByteArray} {a : Int} (h : RdAt w p s a) (b : Int) : RdAt (w.setCell ⟨p, 1, none⟩ (.int .i64 b)) p s b := by
  unfold RdAt at h ⊢
  rw [set_block _ h]
  rfl
theorem RdAt.lt {w : World} {p : Nat} {s : ByteArray} {a : Int} (h : RdAt w p s a) : p < w.heap.size := (Array.getElem?_eq_some_iff.1 h).1
theorem rd_new (w : World) (s : ByteArray) (a : Int) : RdAt (w.alloc (.cells #[.string s, .int .i64 a] 57)) w.heap.size s a := by
  show (w.heap.push _)[w.heap.size]? = _
  rw [Array.getElem?_push, if_pos rfl]

/-- Yes, and some draws. -/
def BoolIs (w : World) (b : Bool) (e : Ending) (w' : World) : Prop := e = .returned (.bool b) ∧ ∃ n, w' = w.drewN n

set_option maxHeartbeats 400000 in
theorem has_yes (p : Nat) (s : ByteArray) (a n : Nat) (w : World) (h : RdAt w p s a) (hs : s.size ≤ maxLen) (hn : a + n ≤ s.size) :
    Calls Try.prog 46 #[.pointer (some ⟨p, 0, none⟩), .int .i64 n] w (BoolIs w true) := by
  unfold maxLen at hs
  obtain ⟨c0, c1, f1⟩ := h.cells
  clear h
  have d1 : decide ((0 : Int) ≤ (n : Int)) = true := by simp
  have d2 : decide ((0 : Int) ≤ (a : Int)) = true := by simp
  have d3 : decide (a ≤ s.size) = true := by simp; omega
  go_enter Try.func46, Try.ntmps46
  go_wp2
  go_quiet (fail)
  go_wp2
  go_ret
  exact ⟨ret_bool (by simp; omega), _, rfl⟩

set_option maxHeartbeats 400000 in
theorem has_no (p : Nat) (s : ByteArray) (a n : Int) (w : World) (h : RdAt w p s a) (hs : s.size ≤ maxLen) (hn : n < 0 ∨ a < 0 ∨ s.size < a ∨ s.size - a < n) :
    Calls Try.prog 46 #[.pointer (some ⟨p, 0, none⟩), .int .i64 n] w (BoolIs w false) := by
  unfold maxLen at hs
  obtain ⟨c0, c1, f1⟩ := h.cells
  clear h
  have HN := Lib.hid hn
  clear hn
  by_cases d1 : 0 ≤ n
  · have d1' : decide (0 ≤ n) = true := by simpa using d1
    by_cases d2 : 0 ≤ a
    · have d2' : decide (0 ≤ a) = true := by simpa using d2
      by_cases d3 : a ≤ s.size
      · have d3' : decide (a ≤ s.size) = true := by simpa using d3
        go_enter Try.func46, Try.ntmps46
        go_wp2
        go_quiet (fail)
        go_wp2
        go_ret
        exact ⟨ret_bool (by have := HN.out; simp; omega), _, rfl⟩
      · have d3' : decide (a ≤ s.size) = false := by simpa using d3
        go_enter Try.func46, Try.ntmps46
        go_wp2
        go_quiet (fail)
        go_wp2
        go_ret
        exact ⟨rfl, _, rfl⟩
    · have d2' : decide (0 ≤ a) = false := by simpa using d2
      go_enter Try.func46, Try.ntmps46
      go_wp2
      go_quiet (fail)
      go_wp2
      go_ret
      exact ⟨rfl, _, rfl⟩
  · have d1' : decide (0 ≤ n) = false := by simpa using d1
    go_enter Try.func46, Try.ntmps46
    go_wp2
    go_quiet (fail)
    go_wp2
    go_ret
    exact ⟨rfl, _, rfl⟩

/-- A part that was taken: the cursor stands behind it. -/
def Taken (w : World) (p : Nat) (s : ByteArray) (a n : Nat) (e : Ending) (w' : World) : Prop :=
  e = .returned (.tuple #[.string (s.extract a (a + n)), .bool true]) ∧ RdAt w' p s (a + n : Nat) ∧ w.grownBy w' (some p)

set_option maxHeartbeats 400000 in
theorem take_yes (p : Nat) (s : ByteArray) (a n : Nat) (w : World) (h : RdAt w p s a) (hs : s.size ≤ maxLen) (hn : a + n ≤ s.size) :
    Calls Try.prog 39 #[.pointer (some ⟨p, 0, none⟩), .int .i64 n] w (Taken w p s a n) := by
  have HH := Lib.hid h
  have HS := Lib.hid hs
  unfold maxLen at hs
  obtain ⟨c0, c1, f1⟩ := h.cells
  clear h
  go_enter Try.func39, Try.ntmps39
  go_wp2_with fail
  refine (has_yes p s a n _ HH.out HS.out hn).mono ?_
  rintro e w1 ⟨rfl, m, rfl⟩
  have i1 : (a : Int) + (n : Int) ≤ (s.size : Int) := by omega
  go_wp2
  go_quiet (fail)
  go_wp2
  go_ret2
  refine ⟨rfl, ?_, (grown_drewN _ _ _).trans (grown_set _ _ _ _)⟩
  have e : ((a + n : Nat) : Int) = (a : Int) + (n : Int) := by omega
  rw [e]
  exact (HH.out.drewN _).set _

set_option maxHeartbeats 400000 in
theorem take_no (p : Nat) (s : ByteArray) (a n : Int) (w : World) (h : RdAt w p s a) (hs : s.size ≤ maxLen) (hn : n < 0 ∨ a < 0 ∨ s.size < a ∨ s.size - a < n) :
    Calls Try.prog 39 #[.pointer (some ⟨p, 0, none⟩), .int .i64 n] w fun e w' => e = .returned (.tuple #[.string ⟨#[]⟩, .bool false]) ∧ ∃ n, w' = w.drewN n := by
  have HH := Lib.hid h
  have HN := Lib.hid hn
  clear h hn
  go_enter Try.func39, Try.ntmps39
  go_wp2_with fail
  refine (has_no p s a n _ HH.out hs HN.out).mono ?_
  rintro e w1 ⟨rfl, m, rfl⟩
  go_wp2
  go_ret2
  exact ⟨rfl, _, rfl⟩
end Go.Proofs.Ytgonnibakkabjab
