/- The program's iterator over the parts of a text between marks: it yields them in order, as long as it is let. -/
import Derived.RangeFuncNested
import Derived.RangeFuncBound
import Derived.RangeFuncCalls
import Derived.RangeFuncLeaves
import Derived.Shelf.Abstract
import Derived.Shelf.RegionOpen
import Derived.WalkKit
import Derived.OwnWalkIn
import Derived.TacticsInMore
import Derived.LoopNIn
import Derived.LoopIn
import Derived.Test.YtibimjbnhgehoaaShelf
import Derived.Test.YtibimjbnhgehoaaPartsPure
import Derived.Test.YtibimjbnhgehoaaScope
namespace Go.Proofs.Ytibimjbnhgehoaa
open Go.RowKit Go.Shelf
set_option linter.unusedVariables false
attribute [local go_sem] Oper.semAt_some

theorem index_lt : ∀ (l : List UInt8) (c : UInt8), -1 ≤ Lib.indexByte l c ∧ (Lib.indexByte l c < 0 ↔ c ∉ l)
  | [], c => by simp [Lib.indexByte]
  | b :: l, c => by
    have ih := index_lt l c
    unfold Lib.indexByte
    by_cases e : b = c
    · subst e; simp
    · rw [if_neg (by simpa using e)]
      have e2 : ¬ c = b := fun h => e h.symm
      split
      · rename_i h
        have h1 : Lib.indexByte l c = -1 := by simpa using h
        refine ⟨by omega, ?_⟩
        have := ih.2.1 (by omega)
        simp [e2, this]
      · rename_i h
        have h1 : Lib.indexByte l c ≠ -1 := by simpa using h
        refine ⟨by omega, ?_⟩
        have h2 : ¬ Lib.indexByte l c < 0 := by omega
        have h3 : c ∈ l := Classical.not_not.1 fun hn => h2 (ih.2.2 hn)
        simp [h3]; omega

/-- Two blocks are as they were. -/
def KeepTwo (A B : Nat) (W W' : World) : Prop := W'.heap[A]? = W.heap[A]? ∧ W'.heap[B]? = W.heap[B]?
theorem KeepTwo.trans {A B : Nat} {X Y Z : World} (h : KeepTwo A B X Y) (k : KeepTwo A B Y Z) : KeepTwo A B X Z := ⟨k.1.trans h.1, k.2.trans h.2⟩

/-- A mark, or none, as the program asks it. -/
theorem isMark (marks : ByteArray) (c : UInt8) (w : World) : Calls Try.prog 37 #[.string marks, .int .u8 c.toNat] w fun e w' => e = .returned (.int .i64 (Lib.indexByte marks.data.toList c)) ∧ w' = w := by
  refine (Try.strings_IndexByte marks c.toNat w).mono ?_
  rintro e w' ⟨rfl, rfl⟩
  refine ⟨ret_int ?_, rfl⟩
  congr 1
  simp

set_option maxRecDepth 100000 in
set_option maxHeartbeats 1000000 in
theorem parts_in (n l Bs Bm : Nat) (s marks : ByteArray) (hsz : s.size ≤ 2000000) (all : List ByteArray) (hall : left (marked marks) s 0 0 = all) (J Jx : List ByteArray → World → Prop)
    (hY : ∀ pre x W, J pre W → pre.length < all.length → YieldAt Fence.wide (n - 1) Try.prog l #[.string x] W fun e W' =>
      (e = .returned (.bool true) ∧ J (pre ++ [x]) W' ∧ KeepTwo Bs Bm W W') ∨ (e = .returned (.bool false) ∧ Jx (pre ++ [x]) W'))
    (B : Nat) (hJ : AbidesFrom B J) (W : World) (hs : Boxed W Bs 9 (.string s)) (hm : Boxed W Bm 9 (.string marks)) (h0 : J [] W) :
    CallsIn Fence.wide n Try.prog 36 #[.func (.yield l) #[] #[], .pointer (some ⟨Bs, 0, none⟩), .pointer (some ⟨Bm, 0, none⟩)] W fun e W' => (∃ v, e = .returned v) ∧
      ((∃ ys, ys = all ∧ J ys W') ∨ (∃ pre, pre <+: all ∧ Jx pre W')) := by
  refine callsIn_of_wp Try.func36 rfl trivial ?_ rfl
  simp only [Try.ntmps36, List.size_toArray, List.length_cons, List.length_nil, Nat.reduceAdd, Nat.reduceSub, Array.replicate_succ, Array.replicate_zero, List.push_toArray, List.append_toArray, List.nil_append, List.cons_append]
  refine wpIn_scope ?_
  gi_wp2
  refine wpIn_label ?_
  gi_wp2
  gi_loopw [4, 5] (fun fr at_ wr => ∃ (k f : Nat) (pre : List ByteArray), k ≤ s.size + 1 ∧ f ≤ k ∧ at_ = .int .i64 k ∧ fr = .int .i64 f ∧ Boxed wr Bs 9 (.string s) ∧ Boxed wr Bm 9 (.string marks) ∧ J pre wr ∧ (k ≤ s.size ∧ pre ++ left (marked marks) s f k = all ∨ k = s.size + 1 ∧ pre = all))
    (fun _ at_ _ => s.size + 1 - (intOf at_).toNat)
  case atStart => exact ⟨0, 0, [], by omega, by omega, rfl, rfl, hs, hm, h0, Or.inl ⟨by omega, hall⟩⟩
  case round =>
    obtain ⟨k, f, pre, hk, hf, rfl, rfl, bs, bm, hJs, hst⟩ := hrel
    have cs := bs.cell
    have cm := bm.cell
    have BB := Lib.hid (And.intro bs bm)
    have HST := Lib.hid hst
    have HJ := Lib.hid hJs
    clear bs bm hst hJs h0
    by_cases hle : k ≤ s.size
    · by_cases hlt : k < s.size
      · have i1 : (k : Int) < (s.size : Int) := by omega
        have hidx := (index_lt marks.data.toList s[k]).2
        by_cases hmk : s[k] ∈ marks.data.toList
        · have hx : 0 ≤ Lib.indexByte marks.data.toList s[k] := by
            rcases Int.lt_or_le (Lib.indexByte marks.data.toList s[k]) 0 with h | h
            · exact absurd hmk (hidx.1 h)
            · exact h
          have MK : marked marks s[k] = true := by unfold marked; simpa using hmk
          have LF := Lib.hid (left_mark (f := f) hlt MK)
          clear hidx hmk MK
          gi_wp2
          refine wpIn_wide.2 ?_
          go_quiet ((go_at_call 37; exact Calls.quiet_of_same (isMark marks _ _)))
          obtain ⟨fn, tmps, assign, body, hy, hR⟩ := hY pre (s.extract f k) (wr.drewN nq) (hJ _ _ _ none HJ.out (grown_drewN _ _ _) (fun _ h => by cases h)) (by rcases HST.out with ⟨_, h⟩ | ⟨h, _⟩ <;> first | omega | (rw [← h, LF.out]; simp))
          gi_wp2
          refine ⟨(fun h => by cases h), hR.mono ?_⟩
          rintro e W3 (⟨rfl, hJ3, hk3⟩ | ⟨rfl, hJx3⟩)
          · have bs3 : Boxed W3 Bs 9 (.string s) := hk3.1.trans BB.out.1
            have bm3 : Boxed W3 Bm 9 (.string marks) := hk3.2.trans BB.out.2
            have HJ3 := Lib.hid hJ3
            clear hJ3 hk3
            gi_wp2
            go_roundw
            case rel => exact ⟨k + 1, k + 1, pre ++ [s.extract f k], by omega, by omega, by go_num, by go_num, bs3, bm3, HJ3.out, Or.inl ⟨by omega, by rcases HST.out with ⟨_, h⟩ | ⟨h, _⟩ <;> first | omega | (rw [← h, LF.out]; simp)⟩⟩
            case measure => simp [intOf]; omega
          · have HX := Lib.hid hJx3
            clear hJx3
            gi_wp2
            rw [Exit.noGoto_normal]
            go_end0
            refine ⟨⟨_, rfl⟩, .inr ⟨pre ++ [s.extract f k], ?_, HX.out⟩⟩
            rcases HST.out with ⟨_, h⟩ | ⟨h, _⟩
            · rw [← h, LF.out]; exact ⟨_, by simp; rfl⟩
            · omega
        · have hx : Lib.indexByte marks.data.toList s[k] < 0 := hidx.2 hmk
          have MK : marked marks s[k] = false := by unfold marked; simpa using hmk
          have LF := Lib.hid (left_go hlt hf MK)
          clear hidx hmk MK
          gi_wp2
          refine wpIn_wide.2 ?_
          go_quiet ((go_at_call 37; exact Calls.quiet_of_same (isMark marks _ _)))
          gi_wp2
          go_roundw
          case rel => exact ⟨k + 1, f, pre, by omega, by omega, by go_num, rfl, BB.out.1, BB.out.2, hJ _ _ _ none HJ.out (grown_drewN _ _ _) (fun _ h => by cases h), Or.inl ⟨by omega, by rcases HST.out with ⟨_, h⟩ | ⟨h, _⟩ <;> first | omega | (rw [← h, LF.out])⟩⟩
          case measure => simp [intOf]; omega
      · obtain rfl : k = s.size := by omega
        have hd : decide (s.size < s.size) = false := by simp
        have LF := Lib.hid (left_end (m := marked marks) (s := s) (f := f))
        gi_wp2
        refine wpIn_wide.2 ?_
        go_quiet (fail)
        obtain ⟨fn, tmps, assign, body, hy, hR⟩ := hY pre (s.extract f s.size) (wr.drewN nq) (hJ _ _ _ none HJ.out (grown_drewN _ _ _) (fun _ h => by cases h)) (by rcases HST.out with ⟨_, h⟩ | ⟨h, _⟩ <;> first | omega | (rw [← h, LF.out]; simp))
        gi_wp2
        refine ⟨(fun h => by cases h), hR.mono ?_⟩
        rintro e W3 (⟨rfl, hJ3, hk3⟩ | ⟨rfl, hJx3⟩)
        · have bs3 : Boxed W3 Bs 9 (.string s) := hk3.1.trans BB.out.1
          have bm3 : Boxed W3 Bm 9 (.string marks) := hk3.2.trans BB.out.2
          have HJ3 := Lib.hid hJ3
          clear hJ3 hk3
          gi_wp2
          go_roundw
          case rel => exact ⟨s.size + 1, s.size + 1, pre ++ [s.extract f s.size], by omega, by omega, by go_num, by go_num, bs3, bm3, HJ3.out, Or.inr ⟨rfl, by rcases HST.out with ⟨_, h⟩ | ⟨h, _⟩ <;> first | omega | (rw [← h, LF.out])⟩⟩
          case measure => simp [intOf]
        · have HX := Lib.hid hJx3
          clear hJx3
          gi_wp2
          rw [Exit.noGoto_normal]
          go_end0
          refine ⟨⟨_, rfl⟩, .inr ⟨pre ++ [s.extract f s.size], ?_, HX.out⟩⟩
          rcases HST.out with ⟨_, h⟩ | ⟨h, _⟩
          · rw [← h, LF.out]; exact ⟨_, by simp; rfl⟩
          · omega
    · gi_wp2
      rw [Exit.noGoto_normal]
      go_end0
      exact ⟨⟨_, rfl⟩, .inl ⟨pre, by rcases HST.out with ⟨h, _⟩ | ⟨_, h⟩; exact absurd h hle; exact h, HJ.out⟩⟩

/-- The maker of the iterator: both texts are boxed; the function value holds the boxes. -/
theorem partsBetween_at (n : Nat) (s marks : ByteArray) (w : World) :
    CallsIn Fence.wide n Try.prog 30 #[.string s, .string marks] w fun e w' => e = .returned (.func (.func 36) #[] #[.pointer (some ⟨w.heap.size, 0, none⟩), .pointer (some ⟨w.heap.size + 1, 0, none⟩)]) ∧ w' = (w.alloc (.cells #[.string s] 9)).alloc (.cells #[.string marks] 9) := by
  refine callsIn_wide.2 ?_
  go_enter Try.func30, Try.ntmps30
  go_wp2
  go_ret
  exact ⟨rfl, rfl⟩

theorem parts_stops (n Bs Bm : Nat) (s marks : ByteArray) (hsz : s.size ≤ 2000000) (w : World) (hs : Boxed w Bs 9 (.string s)) (hm : Boxed w Bm 9 (.string marks)) :
    SeqStopsK Fence.wide n Try.prog 36 #[.pointer (some ⟨Bs, 0, none⟩), .pointer (some ⟨Bm, 0, none⟩)] (fun x : ByteArray => #[Value.string x]) (KeepTwo Bs Bm)
      (fun ys => ys = left (marked marks) s 0 0) (fun pre => pre <+: left (marked marks) s 0 0) (left (marked marks) s 0 0).length w := fun l J Jx W hW hJ _ hY h0 =>
  parts_in n l Bs Bm s marks hsz _ rfl J Jx hY W.heap.size hJ W ((hW.block Bs hs.lt).trans hs) ((hW.block Bm hm.lt).trans hm) h0

theorem keepTwo_put {A B : Nat} {w : World} (hA : A < w.heap.size) (hB : B < w.heap.size) : ∀ (W : World) (l : Nat) (o o' : Obj), w.heap.size ≤ l → W.heap[l]? = some o → o.isCells = false → o.isWalk = false → KeepTwo A B W (W.putObj l o') :=
  fun W l o o' hl _ _ _ => ⟨World.putObj_heap_other (by omega), World.putObj_heap_other (by omega)⟩
end Go.Proofs.Ytibimjbnhgehoaa
