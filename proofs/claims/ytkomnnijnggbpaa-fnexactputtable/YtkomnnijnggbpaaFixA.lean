/- Contract of the program's PutFix. -/
import Derived.Test.YtkomnnijnggbpaaRowsA
import Derived.Test.YtkomnnijnggbpaaPureA
import Derived.Test.YtkomnnijnggbpaaOpsA
import Derived.Test.YtkomnnijnggbpaaProg

namespace Go.Proofs.Ytkomnnijnggbpaa
open Go.RowKit
set_option linter.unusedVariables false

/-- A text that was made; nothing that lay there has turned. -/
def TextIs (w : World) (l : List UInt8) (e : Ending) (w' : World) : Prop := e = .returned (.string ⟨l.toArray⟩) ∧ Below w.heap.size w w'

theorem TextIs.text {w w' : World} {l : List UInt8} {e : Ending} (h : TextIs w l e w') : ∃ S : ByteArray, S.data.toList = l ∧ S.size = l.length ∧ e = .returned (.string S) ∧ Below w.heap.size w w' :=
  ⟨⟨l.toArray⟩, rfl, by simp [ByteArray.size], h.1, h.2⟩
theorem putFix_no {n b : Int} (h : n < 0 ∨ b < 1 ∨ 4 < b) : putFix n b = [] := by unfold putFix; rw [if_neg (by omega)]
theorem putFix_in {n b : Nat} (h1 : 1 ≤ b) (h4 : b ≤ 4) : putFix n b = fixB n b := by unfold putFix; rw [if_pos (by omega)]; rfl

theorem byteInt (n k : Nat) : ((n : Int) / 2 ^ (8 * k) % 256) = ((UInt8.ofNat (n / 2 ^ (8 * k))).toNat : Int) := by
  have e : (n : Int) / 2 ^ (8 * k) = ((n / 2 ^ (8 * k) : Nat) : Int) := by simp
  rw [e, UInt8.toNat_ofNat']
  omega

theorem fix_set (n b k : Nat) (h : k < b) : (fixB n k ++ List.replicate (b - k) 0).set k (UInt8.ofNat (n / 2 ^ (8 * k))) = fixB n (k + 1) ++ List.replicate (b - (k + 1)) 0 := by
  rw [List.set_append_right _ _ (by rw [fix_length]; omega), fix_length, Nat.sub_self]
  have e : b - k = (b - (k + 1)) + 1 := by omega
  rw [e, List.replicate_succ, List.set_cons_zero, fix_succ]
  simp

set_option maxHeartbeats 400000 in
theorem implPutFix_in (n b : Nat) (w : World) (hn : (n : Int) ≤ 9223372036854775807) (h1 : 1 ≤ b) (h4 : b ≤ 4) :
    Calls Try.prog 59 #[.int .i64 n, .int .i64 b] w (TextIs w (fixB n b)) := by
  go_enter Try.func59, Try.ntmps59
  go_wp2_with (at_make; refine wp_makeB rfl _ _ rfl _ _ b rfl rfl rfl rfl (by omega) ?_; intro w2 t2; have T2 := Lib.hid t2; clear t2)
  go_loopw [21] (fun i wr => ∃ (k : Nat), k ≤ b ∧ i = .int .i64 k ∧ BArr w wr w.heap.size (fixB n k ++ List.replicate (b - k) 0)) (fun i _ => b - (intOf i).toNat)
  case atStart => exact ⟨0, Nat.zero_le _, rfl, T2.out⟩
  case round =>
    obtain ⟨k, hk, rfl, t⟩ := hrel
    have TT := Lib.hid t
    by_cases hlt : k < b
    · have HS := Lib.hid (fix_set n b k hlt)
      have hc := t.cell k (by simp [fix_length]; omega)
      have hf := t.frozen k
      clear t
      go_wp2
      go_roundw
      case rel => exact ⟨k + 1, by omega, by go_num, by rw [← HS.out]; exact TT.out.set k _ (by unfold u8v; rw [← byteInt])⟩
      case measure => simp [intOf]; omega
    · obtain rfl : k = b := by omega
      have hcv := t.str (c := k) (n := k) (by simp [fix_length])
      clear t
      go_wp2
      go_ret
      exact ⟨ret_text (by simp), TT.out.below⟩

set_option maxHeartbeats 400000 in
theorem implPutFix (n b : Int) (w : World) (h0 : -9223372036854775808 ≤ n) (h1 : n ≤ 9223372036854775807) :
    Calls Try.prog 59 #[.int .i64 n, .int .i64 b] w (TextIs w (putFix n b)) := by
  by_cases hn : n < 0
  · go_enter Try.func59, Try.ntmps59
    go_wp2
    go_ret
    exact ⟨ret_text (a := []) (putFix_no (by omega)).symm, Below.refl _ _⟩
  · obtain ⟨n, rfl⟩ := Int.eq_ofNat_of_zero_le (by omega : 0 ≤ n)
    by_cases hb : b < 1
    · go_enter Try.func59, Try.ntmps59
      go_wp2
      go_ret
      exact ⟨ret_text (a := []) (putFix_no (by omega)).symm, Below.refl _ _⟩
    · by_cases hb4 : 4 < b
      · go_enter Try.func59, Try.ntmps59
        go_wp2
        go_ret
        exact ⟨ret_text (a := []) (putFix_no (by omega)).symm, Below.refl _ _⟩
      · obtain ⟨b, rfl⟩ := Int.eq_ofNat_of_zero_le (by omega : 0 ≤ b)
        rw [putFix_in (by omega) (by omega)]
        exact implPutFix_in n b w h1 (by omega) (by omega)
end Go.Proofs.Ytkomnnijnggbpaa
/- Contract of the model's PutFix. -/
namespace Go.Proofs.Ytkomnnijnggbpaa
open Go.RowKit
set_option linter.unusedVariables false

set_option maxHeartbeats 400000 in
theorem specPutFix_in (n b : Nat) (w : World) (hn : (n : Int) ≤ 9223372036854775807) (h1 : 1 ≤ b) (h4 : b ≤ 4) :
    Calls Try.prog 36 #[.int .i64 n, .int .i64 b] w (TextIs w (fixB n b)) := by
  go_enter Try.func36, Try.ntmps36
  go_wp2_with fail
  refine (specIn_yes _ _ _ _ (by omega) (by omega)).mono ?_
  rintro e w1 ⟨rfl, rfl⟩
  go_wp2_with fail
  go_loopw [5, 6] (fun v i wr => ∃ (k c g : Nat), k ≤ b ∧ i = .int .i64 k ∧ v = .slice (some ⟨g, 0, none⟩) k c ∧ BRow w wr v (fixB n k)) (fun _ i _ => b - (intOf i).toNat)
  case atStart => exact ⟨0, 0, _, Nat.zero_le _, rfl, rfl, brow_made w⟩
  case round =>
    obtain ⟨k, c, g, hk, rfl, rfl, t⟩ := hrel
    have TT := Lib.hid t
    have hl := fix_length n k
    by_cases hlt : k < b
    · have HS := Lib.hid (fix_succ n k)
      have HL := Lib.hid hl
      clear t hl
      go_wp2_with (at_builtin; refine wp_pushB (UInt8.ofNat (n / 2 ^ (8 * k))) (byteInt n k) rfl _ _ rfl rfl rfl TT.out (by rw [HL.out]; omega) ?_; rw [← HS.out, HL.out]; intro g2 c2 w2 t2; have T2 := Lib.hid t2; clear t2)
      go_roundw
      case rel => exact ⟨k + 1, c2, g2, by omega, by go_num, rfl, T2.out⟩
      case measure => simp [intOf]; omega
    · obtain rfl : k = b := by omega
      have hcv := t.str hl
      clear t hl
      go_wp2
      go_ret
      exact ⟨rfl, TT.out.below⟩

set_option maxHeartbeats 400000 in
theorem specPutFix (n b : Int) (w : World) (h0 : -9223372036854775808 ≤ n) (h1 : n ≤ 9223372036854775807) :
    Calls Try.prog 36 #[.int .i64 n, .int .i64 b] w (TextIs w (putFix n b)) := by
  by_cases hn : n < 0
  · go_enter Try.func36, Try.ntmps36
    go_wp2
    go_ret
    exact ⟨ret_text (a := []) (putFix_no (by omega)).symm, Below.refl _ _⟩
  · obtain ⟨n, rfl⟩ := Int.eq_ofNat_of_zero_le (by omega : 0 ≤ n)
    by_cases hb : b < 1 ∨ 4 < b
    · have HB := Lib.hid hb
      clear hb
      go_enter Try.func36, Try.ntmps36
      go_wp2_with fail
      refine (specIn_no _ _ _ _ HB.out).mono ?_
      rintro e w1 ⟨rfl, rfl⟩
      go_wp2
      go_ret
      exact ⟨ret_text (a := []) (putFix_no (Or.inr HB.out)).symm, Below.refl _ _⟩
    · obtain ⟨b, rfl⟩ := Int.eq_ofNat_of_zero_le (by omega : 0 ≤ b)
      rw [putFix_in (by omega) (by omega)]
      exact specPutFix_in n b w h1 (by omega) (by omega)
end Go.Proofs.Ytkomnnijnggbpaa
/- Contracts of the program's cursor: what is left of a text, and a part taken from it. -/
namespace Go.Proofs.Ytkomnnijnggbpaa
open Go.RowKit
set_option linter.unusedVariables false

/-- A cursor over a text, at a place; it lies alone, or as the first part of another struct. -/
def RdT (T : Nat) (w : World) (p : Nat) (s : ByteArray) (a : Int) : Prop := w.heap[p]? = some (.cells #[.string s, .int .i64 a] T (0, 0))
abbrev RdAt (w : World) (p : Nat) (s : ByteArray) (a : Int) : Prop := RdT 63 w p s a
theorem RdT.cells {T : Nat} {w : World} {p : Nat} {s : ByteArray} {a : Int} (h : RdT T w p s a) :
    w.cell? ⟨p, 0, none⟩ = some (.string s) ∧ w.cell? ⟨p, 1, none⟩ = some (.int .i64 a) ∧ w.frozen? ⟨p, 1, none⟩ = false := by
  unfold RdT at h
  refine ⟨?_, ?_, ?_⟩ <;> simp [World.cell?, World.frozen?, h]
theorem RdT.drewN {T : Nat} {w : World} {p : Nat} {s : ByteArray} {a : Int} (h : RdT T w p s a) (n : Nat) : RdT T (w.drewN n) p s a := h
theorem RdT.set {T : Nat} {w : World} {p : Nat} {s : ByteArray} {a : Int} (h : RdT T w p s a) (b : Int) : RdT T (w.setCell ⟨p, 1, none⟩ (.int .i64 b)) p s b := by
  unfold RdT at h ⊢
  rw [set_block _ h]
  rfl
theorem RdT.lt {T : Nat} {w : World} {p : Nat} {s : ByteArray} {a : Int} (h : RdT T w p s a) : p < w.heap.size := (Array.getElem?_eq_some_iff.1 h).1
theorem rd_new (w : World) (s : ByteArray) (a : Int) : RdAt (w.alloc (.cells #[.string s, .int .i64 a] 63)) w.heap.size s a := by
  show (w.heap.push _)[w.heap.size]? = _
  rw [Array.getElem?_push, if_pos rfl]

/-- Yes, and some draws. -/
def BoolIs (w : World) (b : Bool) (e : Ending) (w' : World) : Prop := e = .returned (.bool b) ∧ ∃ n, w' = w.drewN n

set_option maxHeartbeats 400000 in
theorem has_yes {T : Nat} (p : Nat) (s : ByteArray) (a n : Nat) (w : World) (h : RdT T w p s a) (hs : s.size ≤ maxLen) (hn : a + n ≤ s.size) :
    Calls Try.prog 84 #[.pointer (some ⟨p, 0, none⟩), .int .i64 n] w (BoolIs w true) := by
  unfold maxLen at hs
  obtain ⟨c0, c1, f1⟩ := h.cells
  clear h
  have d1 : decide ((0 : Int) ≤ (n : Int)) = true := by simp
  have d2 : decide ((0 : Int) ≤ (a : Int)) = true := by simp
  have d3 : decide (a ≤ s.size) = true := by simp; omega
  go_enter Try.func84, Try.ntmps84
  go_wp2
  go_quiet (fail)
  go_wp2
  go_ret
  exact ⟨ret_bool (by simp; omega), _, rfl⟩

set_option maxHeartbeats 400000 in
theorem has_no {T : Nat} (p : Nat) (s : ByteArray) (a n : Int) (w : World) (h : RdT T w p s a) (hs : s.size ≤ maxLen) (hn : n < 0 ∨ a < 0 ∨ s.size < a ∨ s.size - a < n) :
    Calls Try.prog 84 #[.pointer (some ⟨p, 0, none⟩), .int .i64 n] w (BoolIs w false) := by
  unfold maxLen at hs
  obtain ⟨c0, c1, f1⟩ := h.cells
  clear h
  have HN := Lib.hid hn
  clear hn
  by_cases d1 : 0 ≤ n
  · have d1' : decide (0 ≤ n) = true := by simpa using d1
    by_cases d2 : 0 ≤ a
    · have d2' : decide (0 ≤ a) = true := by simpa using d2
      by_cases d3 : a ≤ s.size
      · have d3' : decide (a ≤ s.size) = true := by simpa using d3
        go_enter Try.func84, Try.ntmps84
        go_wp2
        go_quiet (fail)
        go_wp2
        go_ret
        exact ⟨ret_bool (by have := HN.out; simp; omega), _, rfl⟩
      · have d3' : decide (a ≤ s.size) = false := by simpa using d3
        go_enter Try.func84, Try.ntmps84
        go_wp2
        go_quiet (fail)
        go_wp2
        go_ret
        exact ⟨rfl, _, rfl⟩
    · have d2' : decide (0 ≤ a) = false := by simpa using d2
      go_enter Try.func84, Try.ntmps84
      go_wp2
      go_quiet (fail)
      go_wp2
      go_ret
      exact ⟨rfl, _, rfl⟩
  · have d1' : decide (0 ≤ n) = false := by simpa using d1
    go_enter Try.func84, Try.ntmps84
    go_wp2
    go_quiet (fail)
    go_wp2
    go_ret
    exact ⟨rfl, _, rfl⟩

/-- A part that was taken: the cursor stands behind it. -/
def Taken (T : Nat) (w : World) (p : Nat) (s : ByteArray) (a n : Nat) (e : Ending) (w' : World) : Prop :=
  e = .returned (.tuple #[.string (s.extract a (a + n)), .bool true]) ∧ RdT T w' p s (a + n : Nat) ∧ w.grownBy w' (some p)

set_option maxHeartbeats 400000 in
theorem take_yes {T : Nat} (p : Nat) (s : ByteArray) (a n : Nat) (w : World) (h : RdT T w p s a) (hs : s.size ≤ maxLen) (hn : a + n ≤ s.size) :
    Calls Try.prog 66 #[.pointer (some ⟨p, 0, none⟩), .int .i64 n] w (Taken T w p s a n) := by
  have HH := Lib.hid h
  have HS := Lib.hid hs
  unfold maxLen at hs
  obtain ⟨c0, c1, f1⟩ := h.cells
  clear h
  go_enter Try.func66, Try.ntmps66
  go_wp2_with fail
  refine (has_yes p s a n _ HH.out HS.out hn).mono ?_
  rintro e w1 ⟨rfl, m, rfl⟩
  have i1 : (a : Int) + (n : Int) ≤ (s.size : Int) := by omega
  go_wp2
  go_quiet (fail)
  go_wp2
  go_ret2
  refine ⟨rfl, ?_, (grown_drewN _ _ _).trans (grown_set _ _ _ _)⟩
  have e : ((a + n : Nat) : Int) = (a : Int) + (n : Int) := by omega
  rw [e]
  exact (HH.out.drewN _).set _

set_option maxHeartbeats 400000 in
theorem take_no {T : Nat} (p : Nat) (s : ByteArray) (a n : Int) (w : World) (h : RdT T w p s a) (hs : s.size ≤ maxLen) (hn : n < 0 ∨ a < 0 ∨ s.size < a ∨ s.size - a < n) :
    Calls Try.prog 66 #[.pointer (some ⟨p, 0, none⟩), .int .i64 n] w fun e w' => e = .returned (.tuple #[.string ⟨#[]⟩, .bool false]) ∧ ∃ n, w' = w.drewN n := by
  have HH := Lib.hid h
  have HN := Lib.hid hn
  clear h hn
  go_enter Try.func66, Try.ntmps66
  go_wp2_with fail
  refine (has_no p s a n _ HH.out hs HN.out).mono ?_
  rintro e w1 ⟨rfl, m, rfl⟩
  go_wp2
  go_ret2
  exact ⟨rfl, _, rfl⟩
end Go.Proofs.Ytkomnnijnggbpaa
/- Contract of the program's cursor: a number of so many bytes taken. -/
namespace Go.Proofs.Ytkomnnijnggbpaa
open Go.RowKit
set_option linter.unusedVariables false

theorem fixVal_take (s : ByteArray) (k : Nat) (h : k < s.size) : fixVal (s.data.toList.take (k + 1)) = fixVal (s.data.toList.take k) + 2 ^ (8 * k) * s[k].toNat := by
  rw [take_snoc s k h, fixVal_snoc, List.length_take]
  have e2 : min k s.data.toList.length = k := by simp; omega
  rw [e2]
theorem fixVal_take_lt (l : List UInt8) (k : Nat) : fixVal (l.take k) < 2 ^ (8 * k) := by
  refine Nat.lt_of_lt_of_le (fixVal_lt _) ?_
  exact Nat.pow_le_pow_right (by omega) (by have := List.length_take_le k l; omega)
theorem part_list (s : ByteArray) (a b : Nat) : (s.extract a (a + b)).data.toList = (s.data.toList.drop a).take b := by
  simp only [ByteArray.data_extract, Array.toList_extract, List.extract_eq_take_drop]
  congr 1
  omega

/-- A byte taken in above those that are there. -/
theorem or_byte (v k c : Nat) (hk : k < 4) (hv : v < 2 ^ (8 * k)) (hc : c < 256) : bits .or .i64 (v : Int) (wrap64 ((c : Int) * 2 ^ (8 * k))) = ((v + 2 ^ (8 * k) * c : Nat) : Int) := by
  have hp : 2 ^ (8 * k) ≤ 2 ^ 24 := Nat.pow_le_pow_right (by omega) (by omega)
  have hm : 2 ^ (8 * k) * c ≤ 2 ^ 24 * 256 := Nat.mul_le_mul hp (by omega)
  have e : (c : Int) * 2 ^ (8 * k) = ((2 ^ (8 * k) * c : Nat) : Int) := by rw [Int.natCast_mul, Int.mul_comm]; simp
  have e2 : wrap64 ((2 ^ (8 * k) * c : Nat) : Int) = ((2 ^ (8 * k) * c : Nat) : Int) := by unfold wrap64; omega
  rw [e, e2, i64_or_nat _ _ (by omega) (by omega), Nat.or_comm, ← Nat.two_pow_add_eq_or_of_lt hv, Nat.add_comm]

set_option maxHeartbeats 400000 in
theorem takeFix_yes {T : Nat} (p : Nat) (s : ByteArray) (a b : Nat) (w : World) (h : RdT T w p s a) (hs : s.size ≤ maxLen) (h1 : 1 ≤ b) (h4 : b ≤ 4) (hn : a + b ≤ s.size) :
    Calls Try.prog 37 #[.pointer (some ⟨p, 0, none⟩), .int .i64 b] w fun e w' => e = .returned (.tuple #[.int .i64 (fixVal ((s.data.toList.drop a).take b)), .bool true]) ∧ RdT T w' p s (a + b : Nat) ∧ w.grownBy w' (some p) := by
  have HH := Lib.hid h
  clear h
  go_enter Try.func37, Try.ntmps37
  go_wp2_with fail
  refine (take_yes p s a b _ HH.out hs hn).mono ?_
  rintro e w1 ⟨rfl, hr, hg⟩
  have HX := Lib.hid (And.intro hr hg)
  clear hr hg
  unfold maxLen at hs
  have hz : (s.extract a (a + b)).size = b := by rw [ByteArray.size_extract]; omega
  have hq := part_list s a b
  generalize s.extract a (a + b) = q at hz hq ⊢
  have HQ := Lib.hid hq
  have hz1 : q.size ≤ 4 := by omega
  have HZ := Lib.hid hz
  clear hq hz
  go_wp2_with fail
  go_loop [8, 26] (fun n i => ∃ k : Nat, k ≤ q.size ∧ i = .int .i64 k ∧ n = .int .i64 (fixVal (q.data.toList.take k))) (fun _ i => q.size - (intOf i).toNat)
  case atStart => exact ⟨0, Nat.zero_le _, rfl, rfl⟩
  case round =>
    obtain ⟨k, hk, rfl, rfl⟩ := hrel
    by_cases hlt : k < q.size
    · have HV := Lib.hid (fixVal_take q k hlt)
      have hv := fixVal_take_lt q.data.toList k
      have hc := q[k].toNat_lt
      have HO := Lib.hid (or_byte _ k q[k].toNat (by omega) hv (by omega))
      have i1 : (k : Int) < (q.size : Int) := by omega
      clear hv
      go_wp2
      go_round
      case rel => exact ⟨k + 1, by omega, by go_num, congrArg (Value.int IntKind.i64) (by rw [HO.out, HV.out])⟩
      case measure => simp [intOf]; omega
    · obtain rfl : k = q.size := by omega
      have e0 : q.data.toList.take q.size = q.data.toList := List.take_of_length_le (by simp)
      rw [e0]
      clear e0
      go_wp2
      go_ret2
      exact ⟨congrArg (fun l => Ending.returned (.tuple #[.int .i64 (fixVal l : Nat), .bool true])) HQ.out, HX.out.1, HX.out.2⟩

set_option maxHeartbeats 400000 in
theorem takeFix_no {T : Nat} (p : Nat) (s : ByteArray) (a b : Int) (w : World) (h : RdT T w p s a) (hs : s.size ≤ maxLen) (hn : b < 1 ∨ 4 < b ∨ a < 0 ∨ s.size < a ∨ s.size - a < b) :
    Calls Try.prog 37 #[.pointer (some ⟨p, 0, none⟩), .int .i64 b] w fun e w' => e = .returned (.tuple #[.int .i64 0, .bool false]) ∧ ∃ n, w' = w.drewN n := by
  have HH := Lib.hid h
  have HN := Lib.hid hn
  clear h hn
  by_cases h1 : b < 1
  · go_enter Try.func37, Try.ntmps37
    go_wp2
    go_ret2
    exact ⟨rfl, 0, rfl⟩
  · by_cases h4 : 4 < b
    · go_enter Try.func37, Try.ntmps37
      go_wp2
      go_ret2
      exact ⟨rfl, 0, rfl⟩
    · go_enter Try.func37, Try.ntmps37
      go_wp2_with fail
      refine (take_no p s a b _ HH.out hs (by have := HN.out; omega)).mono ?_
      rintro e w1 ⟨rfl, m, rfl⟩
      go_wp2
      go_ret2
      exact ⟨rfl, _, rfl⟩
end Go.Proofs.Ytkomnnijnggbpaa
/- Contract of the program's GetFix. -/
namespace Go.Proofs.Ytkomnnijnggbpaa
open Go.RowKit
set_option linter.unusedVariables false

theorem getFix_no {l : List UInt8} {a b : Int} (h : b < 1 ∨ 4 < b ∨ a < 0 ∨ l.length < a ∨ l.length - a < b) : getFix l a b = -1 := by unfold getFix; rw [if_neg (by omega)]
theorem getFix_yes {l : List UInt8} {a b : Nat} (h1 : 1 ≤ b) (h4 : b ≤ 4) (h : a + b ≤ l.length) : getFix l a b = fixVal ((l.drop a).take b) := by
  unfold getFix; rw [if_pos (by omega)]; simp

/-- A number; nothing that lay there has turned. -/
def IntIs (w : World) (n : Int) (e : Ending) (w' : World) : Prop := e = .returned (.int .i64 n) ∧ Below w.heap.size w w'

theorem below_rd {w w1 : World} {o : Obj} (g : (w.alloc o).grownBy w1 (some w.heap.size)) : Below w.heap.size w w1 := below_new (World.grownBy_alloc w o none) g

set_option maxHeartbeats 400000 in
theorem implGetFix (s : ByteArray) (a b : Int) (w : World) (hs : s.size ≤ maxLen) :
    Calls Try.prog 12 #[.string s, .int .i64 a, .int .i64 b] w (IntIs w (getFix s.data.toList a b)) := by
  have hl : s.data.toList.length = s.size := by simp
  by_cases hn : b < 1 ∨ 4 < b ∨ a < 0 ∨ s.size < a ∨ s.size - a < b
  · have HR := Lib.hid (getFix_no (l := s.data.toList) (by rw [hl]; exact hn))
    have HN := Lib.hid hn
    clear hn hl
    go_enter Try.func12, Try.ntmps12
    go_wp2_with fail
    refine (takeFix_no _ s a b _ (rd_new w s a) hs HN.out).mono ?_
    rintro e w1 ⟨rfl, m, rfl⟩
    go_wp2
    go_ret
    exact ⟨ret_int HR.out.symm, ((Below.refl _ _).alloc (Nat.le_refl _) _).trans (below_draws _)⟩
  · obtain ⟨a, rfl⟩ := Int.eq_ofNat_of_zero_le (by omega : 0 ≤ a)
    obtain ⟨b, rfl⟩ := Int.eq_ofNat_of_zero_le (by omega : 0 ≤ b)
    have h1 : 1 ≤ b := by omega
    have h4 : b ≤ 4 := by omega
    have h5 : a + b ≤ s.size := by omega
    have HR := Lib.hid (getFix_yes (l := s.data.toList) h1 h4 (by rw [hl]; exact h5))
    clear hn hl
    go_enter Try.func12, Try.ntmps12
    go_wp2_with fail
    refine (takeFix_yes _ s a b _ (rd_new w s a) hs h1 h4 h5).mono ?_
    rintro e w1 ⟨rfl, hr, hg⟩
    have HG := Lib.hid hg
    clear hr hg
    go_wp2
    go_ret
    exact ⟨ret_int HR.out.symm, below_rd HG.out⟩
end Go.Proofs.Ytkomnnijnggbpaa
/- Contract of the model's GetFix. -/
namespace Go.Proofs.Ytkomnnijnggbpaa
open Go.RowKit
set_option linter.unusedVariables false

theorem fixVal_up (s : ByteArray) (a b k : Nat) (hb : k < b) (h : a + b ≤ s.size) : fixVal (((s.data.toList.drop a).take b).drop k) = fixVal (((s.data.toList.drop a).take b).drop (k + 1)) * 256 + s[a + k].toNat := by
  have hk : k < ((s.data.toList.drop a).take b).length := by simp; omega
  rw [List.drop_eq_getElem_cons hk, fixVal]
  have e : ((s.data.toList.drop a).take b)[k] = s[a + k] := by rw [List.getElem_take, List.getElem_drop]; rfl
  rw [e]
  omega
theorem fixVal_up_lt (l : List UInt8) (b k : Nat) (hb : b ≤ 4) (hk : 1 ≤ k) : fixVal ((l.take b).drop k) < 16777216 := by
  refine Nat.lt_of_lt_of_le (fixVal_lt _) ?_
  have : ((l.take b).drop k).length ≤ 3 := by rw [List.length_drop, List.length_take]; omega
  have h2 : 2 ^ (8 * ((l.take b).drop k).length) ≤ 2 ^ 24 := Nat.pow_le_pow_right (by omega) (by omega)
  exact h2

set_option maxHeartbeats 400000 in
theorem specGetFix (s : ByteArray) (a b : Int) (w : World) (hs : s.size ≤ maxLen) (ha : -9223372036854775808 ≤ a ∧ a ≤ 9223372036854775807) :
    Calls Try.prog 13 #[.string s, .int .i64 a, .int .i64 b] w (IntIs w (getFix s.data.toList a b)) := by
  unfold maxLen at hs
  have hl : s.data.toList.length = s.size := by simp
  by_cases hb : b < 1 ∨ 4 < b
  · have HR := Lib.hid (getFix_no (l := s.data.toList) (a := a) (b := b) (by rw [hl]; omega))
    have HB := Lib.hid hb
    clear hb hl
    go_enter Try.func13, Try.ntmps13
    go_wp2_with fail
    refine (specIn_no _ _ _ _ HB.out).mono ?_
    rintro e w1 ⟨rfl, rfl⟩
    go_wp2
    go_ret
    exact ⟨ret_int HR.out.symm, Below.refl _ _⟩
  · obtain ⟨b, rfl⟩ := Int.eq_ofNat_of_zero_le (by omega : 0 ≤ b)
    have h1 : 1 ≤ b := by omega
    have h4 : b ≤ 4 := by omega
    by_cases hn : a < 0 ∨ s.size - b < a
    · have HR := Lib.hid (getFix_no (l := s.data.toList) (a := a) (b := b) (by rw [hl]; omega))
      clear hb hl
      by_cases h0 : a < 0
      · clear hn
        go_enter Try.func13, Try.ntmps13
        go_wp2_with fail
        refine (specIn_yes _ _ _ _ (by omega) (by omega)).mono ?_
        rintro e w1 ⟨rfl, rfl⟩
        go_wp2
        go_ret
        exact ⟨ret_int HR.out.symm, Below.refl _ _⟩
      · have h2 : (s.size : Int) - (b : Int) < a := by omega
        clear hn
        go_enter Try.func13, Try.ntmps13
        go_wp2_with fail
        refine (specIn_yes _ _ _ _ (by omega) (by omega)).mono ?_
        rintro e w1 ⟨rfl, rfl⟩
        go_wp2
        go_ret
        exact ⟨ret_int HR.out.symm, Below.refl _ _⟩
    · obtain ⟨a, rfl⟩ := Int.eq_ofNat_of_zero_le (by omega : 0 ≤ a)
      have h5 : a + b ≤ s.size := by omega
      have h6 : (a : Int) ≤ (s.size : Int) - (b : Int) := by omega
      have HR := Lib.hid (getFix_yes (l := s.data.toList) h1 h4 (by rw [hl]; exact h5))
      clear hn hl hb
      go_enter Try.func13, Try.ntmps13
      go_wp2_with fail
      refine (specIn_yes _ _ _ _ (by omega) (by omega)).mono ?_
      rintro e w1 ⟨rfl, rfl⟩
      go_wp2_with fail
      go_loop [7, 8] (fun n i => ∃ k : Nat, k ≤ b ∧ i = .int .i64 ((k : Int) - 1) ∧ n = .int .i64 (fixVal (((s.data.toList.drop a).take b).drop k))) (fun _ i => ((intOf i) + 1).toNat)
      case atStart => exact ⟨b, Nat.le_refl _, rfl, by rw [List.drop_of_length_le (List.length_take_le _ _)]; rfl⟩
      case round =>
        obtain ⟨k, hk, rfl, rfl⟩ := hrel
        cases k with
        | zero =>
          go_wp2
          go_ret
          exact ⟨ret_int (by rw [HR.out]), Below.refl _ _⟩
        | succ k =>
          have HU := Lib.hid (fixVal_up s a b k (by omega) h5)
          have hu := fixVal_up_lt (s.data.toList.drop a) b (k + 1) h4 (by omega)
          have hc := s[a + k].toNat_lt
          have e1 : ((k + 1 : Nat) : Int) - 1 = (k : Int) := by omega
          rw [e1]
          clear e1
          have i1 : (a : Int) + (k : Int) < (s.size : Int) := by omega
          have i2 : ((a : Int) + (k : Int)).toNat = a + k := by omega
          go_wp2
          go_round
          case rel => exact ⟨k, by omega, rfl, congrArg (Value.int IntKind.i64) (by rw [HU.out]; omega)⟩
          case measure => simp [intOf]
end Go.Proofs.Ytkomnnijnggbpaa
