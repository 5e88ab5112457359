/- Plain mathematics of decimal digits. -/
import Derived.Test.YtjcgbpjgoacdjaaZ0
import Derived.Lib.ItoaNum
import Derived.Test.YtjcgbpjgoacdjaaProg
import Derived.Laws.BytesArg
import Derived.RangeFuncBox
import Derived.Deep.LoopGhost
import Derived.Deep.RegionHeld3
namespace Go.Proofs.Ytjcgbpjgoacdjaa
open Go.RowKit
set_option linter.unusedVariables false

def digs (u : Nat) : List UInt8 := if u = 0 then [] else Lib.decDigits u

theorem digs_step (u : Nat) (h : u ≠ 0) : digs u = digs (u / 10) ++ [UInt8.ofNat (48 + u % 10)] := by
 unfold digs
 rw [if_neg h]
 by_cases h10 : u < 10
 · have e : u / 10 = 0 := by omega
   have e2 : u % 10 = u := by omega
   rw [e, if_pos rfl, e2, Lib.decDigits_one h10]; rfl
 · rw [if_neg (by omega), Lib.decDigits, dif_neg h10]

theorem nDigits_le (u : Nat) (h : u < 18446744073709551616) : Lib.nDigits u ≤ 20 := by
 by_cases h0 : u = 0
 · subst h0; rw [Lib.nDigits_small (by omega)]; omega
 · have := Lib.numDigits_eq u (by omega) h
   have h2 := this.1
   have h3 := this.2
   split at h2 <;> omega

def Told (n k : Int) (l : List UInt8) : Prop := digs k.natAbs ++ l = Lib.decDigits n.natAbs

theorem Told.len {n k : Int} {l : List UInt8} (h : Told n k l) (h0 : -9223372036854775808 ≤ n) (h1 : n ≤ 9223372036854775807) : l.length ≤ 20 := by
 have e := congrArg List.length h
 rw [List.length_append, Lib.decDigits_length] at e
 have := nDigits_le n.natAbs (by omega)
 omega

theorem Told.next {n k k' : Int} {l : List UInt8} (h : Told n k l) (hk : k ≠ 0) (e : k'.natAbs = k.natAbs / 10) : Told n k' (UInt8.ofNat (48 + k.natAbs % 10) :: l) := by
 unfold Told at *
 rw [e, ← h, digs_step k.natAbs (by omega)]
 simp

theorem Told.done {n : Int} {l : List UInt8} (h : Told n 0 l) : l = Lib.decDigits n.natAbs := by
 unfold Told digs at h; simpa using h


theorem new_cell' (w : World) (cs : Array Value) (T j : Nat) : (w.alloc (.cells cs T)).cell? ⟨w.heap.size, j, none⟩ = cs[j]? := by
 have : (w.alloc (.cells cs T)).heap[w.heap.size]? = some (.cells cs T (0, 0)) := by
   show (w.heap.push _)[w.heap.size]? = _
   rw [Array.getElem?_push, if_pos rfl]
 unfold World.cell?
 rw [this]
 rfl

def mk (k : Nat) : ByteArray := ⟨(109 :: Lib.decDigits k).toArray⟩

theorem Told.tail {n k : Int} {l : List UInt8} (h : Told n k l) (hk : k ≠ 0) (h0 : 0 ≤ k) : Told n (k / 10) (UInt8.ofNat (48 + k.natAbs % 10) :: l) := h.next hk (by omega)

theorem byte_of (k : Int) (h : 0 < k) : (strOfNums [48 + k % 10]).data.toList = [UInt8.ofNat (48 + k.natAbs % 10)] := by
 rw [strOfNums_data]
 simp only [List.map_cons, List.map_nil]
 congr 2
 omega

set_option maxHeartbeats 400000 in
theorem markText_at (n : Nat) (w : World) (h0 : 0 < n) (h1 : n ≤ 1000000000) :
   Calls Try.prog 61 #[.int .i64 n] w fun e w' => e = .returned (.string (mk n)) ∧ Below w.heap.size w w' := by
 have hn0 : (0 : Int) < (n : Int) := by omega
 go_enter Try.func61, Try.ntmps61
 go_wp2
 go_loopw [0, 3] (fun m out wr => ∃ (k : Int) (l : List UInt8), 0 ≤ k ∧ k ≤ 1000000000 ∧ l.length ≤ 20 ∧ m = .int .i64 k ∧ out = .string ⟨l.toArray⟩ ∧ Told n k l ∧ Below w.heap.size w wr) (fun m _ _ => (intOf m).natAbs)
 case atStart => exact ⟨n, [], by omega, by omega, by simp, rfl, rfl, by unfold Told digs; rw [if_neg (by omega)]; simp, Below.refl _ _⟩
 case round =>
   obtain ⟨k, l, hk0, hk1, hl, rfl, rfl, HT, hb⟩ := hrel
   by_cases hk : k = 0
   · subst hk
     go_wp2
     go_ret
     refine ⟨congrArg (fun b => Ending.returned (.string b)) (bytes_ext ?_), hb⟩
     have := HT.done
     rw [Int.natAbs_natCast] at this
     simp [mk, this]
   · have hk2 : 0 < k := by omega
     have HT2 := Lib.hid (HT.tail hk hk0)
     have HB := Lib.hid hb
     have hl2 := HT2.out.len (by omega) (by omega)
     clear hk hb HT
     have hcv := run_convert_bytes_arg (P := Try.prog) (wr.alloc (.cells #[.int .u8 (48 + k % 10)] 5)) 22 5 Try.underlying22 Try.underlying5 wr.heap.size 0 1 1 [48 + k % 10] rfl (fun j hj => by
       obtain rfl : j = 0 := by omega
       rw [new_cell']; rfl) 9 Try.underlying9
     have hsz : (strOfNums [48 + k % 10]).size = 1 := by rw [strOfNums_size]; rfl
     go_wp2
     go_roundw
     case rel =>
       refine ⟨k / 10, _, by omega, by omega, hl2, rfl, congrArg Value.string (bytes_ext ?_), HT2.out, HB.out.alloc HB.out.size _⟩
       rw [ByteArray.data_append, Array.toList_append, byte_of k hk2]
       simp
     case measure => simp [intOf]; omega
def marks (k n : Nat) : List ByteArray := (List.range n).map fun j => mk (k + j)

theorem marks_at (k n j : Nat) (h : j < n) : (marks k n)[j]? = some (mk (k + j)) := by simp [marks, h]
theorem marks_length (k n : Nat) : (marks k n).length = n := by simp [marks]

section
variable {w : World} {b e n : Nat} {v : Value} {xs : List Value}
theorem row_shape (h : w.ownsRow b e 1 v n xs) : (v = .slice none 0 0 ∧ n = 0) ∨ ∃ g cap, v = .slice (some ⟨g, 0, none⟩) n cap ∧ n ≤ cap := by
 rcases h.2 with h2 | ⟨g, cap, cur, h1, _, _, h4, _⟩
 · exact .inl h2
 · exact .inr ⟨g, cap, h1, h4⟩

theorem row_cell {g cap : Nat} (h : w.ownsRow b e 1 (.slice (some ⟨g, 0, none⟩) n cap) n xs) (j : Nat) (hj : j < n) : w.cell? ⟨g, j, none⟩ = xs[j]? ∧ w.frozen? ⟨g, j, none⟩ = false := by
 rcases h.2 with ⟨h0, _⟩ | ⟨g', cap', cur, h1, _, hc, hn, _, hs, ht⟩
 · cases h0
 · cases h1
   have hsz : j < cur.size := by omega
   refine ⟨?_, by simp [World.frozen?, hc]⟩
   have : w.cell? ⟨g, j, none⟩ = cur[j]? := by simp [World.cell?, hc]
   rw [this, ← ht, List.getElem?_take, if_pos (by omega)]
   simp

theorem row_set {g cap : Nat} (h : w.ownsRow b e 1 (.slice (some ⟨g, 0, none⟩) n cap) n xs) (j : Nat) (u : Value) : (w.setCell ⟨g, j, none⟩ u).ownsRow b e 1 (.slice (some ⟨g, 0, none⟩) n cap) n (xs.set j u) := by
 refine ⟨by rw [List.length_set]; exact h.1, ?_⟩
 rcases h.2 with ⟨h0, _⟩ | ⟨g', cap', cur, h1, hb, hc, hn, hm, hs, ht⟩
 · cases h0
 · cases h1
   refine .inr ⟨g, cap, cur.setIfInBounds j u, rfl, hb, set_block u hc, hn, hm, by simpa using hs, ?_⟩
   rw [Array.toList_setIfInBounds, List.take_set, ht]
end

theorem marks_step (k i : Nat) (xs : List ByteArray) (h : i < xs.length) : ((marks k i ++ xs.drop i).map Value.string).set i (.string (mk (k + i))) = (marks k (i + 1) ++ xs.drop (i + 1)).map Value.string := by
 apply List.ext_getElem?
 intro j
 rw [List.getElem?_set]
 by_cases hij : i = j
 · subst hij
   rw [if_pos rfl, if_pos (by simp [marks_length]; omega)]
   rw [List.getElem?_map, List.getElem?_append, if_pos (by rw [marks_length]; omega), marks_at _ _ _ (by omega)]
   rfl
 · rw [if_neg hij]
   simp only [List.getElem?_map, List.getElem?_append, marks_length, List.getElem?_drop]
   by_cases h1 : j < i
   · rw [if_pos h1, if_pos (by omega), marks_at _ _ _ h1, marks_at _ _ _ (by omega)]
   · rw [if_neg h1, if_neg (by omega)]
     congr 2
     omega

set_option maxHeartbeats 1000000 in
theorem markStringS_at (v : Value) (k b : Nat) (xs : List ByteArray) (w : World) (h : w.ownsRow b 9 1 v xs.length (xs.map Value.string)) (hk : 1 ≤ k) (hl : k + xs.length ≤ 1000000000) (hb : b ≤ w.heap.size) :
   Calls Try.prog 41 #[v, .int .i64 k] w fun e w' => e = .returned (.int .i64 (k + xs.length : Nat)) ∧ w'.ownsRow b 9 1 v xs.length ((marks k xs.length).map Value.string) ∧ Below b w w' := by
 rcases row_shape h with ⟨rfl, h0⟩ | ⟨g, cap, rfl, hcap⟩
 · have hx : xs = [] := List.eq_nil_of_length_eq_zero h0
   subst hx
   go_enter Try.func41, Try.ntmps41
   go_wp2
   go_loop [1, 5] (fun kk i => kk = .int .i64 k ∧ i = .int .i64 0) (fun _ _ => 0)
   case atStart => exact ⟨rfl, rfl⟩
   case round =>
     obtain ⟨rfl, rfl⟩ := hrel
     go_wp2
     go_ret
     exact ⟨by simp, by simpa [marks] using h, Below.refl _ _⟩
 · have HH := Lib.hid h
   clear h
   obtain ⟨n, hn⟩ : ∃ n, xs.length = n := ⟨_, rfl⟩
   go_enter Try.func41, Try.ntmps41
   rw [hn]
   have HN := Lib.hid hn
   rw [hn] at hl hcap
   clear hn
   go_wp2
   go_loopw [1, 5] (fun kk ii wr => ∃ i m : Nat, i ≤ n ∧ 1 ≤ m ∧ m ≤ 1000000000 ∧ Hid (m = k + i) ∧ ii = .int .i64 i ∧ kk = .int .i64 m ∧ wr.ownsRow b 9 1 (.slice (some ⟨g, 0, none⟩) n cap) n ((marks k i ++ xs.drop i).map Value.string) ∧ Below b w wr) (fun _ ii _ => n - (intOf ii).toNat)
   case atStart => exact ⟨0, k, Nat.zero_le _, hk, by omega, rfl, rfl, rfl, by have := HH.out; rw [HN.out] at this; simpa [marks] using this, Below.refl _ _⟩
   case round =>
     obtain ⟨i, m, hi, hm1, hm2, HM, rfl, rfl, hrow, hbel⟩ := hrel
     have RR := Lib.hid (And.intro hrow hbel)
     have hgo := hrow.lt g rfl
     clear hrow hbel
     by_cases hlt : i < n
     · have i1 : (i : Int) < (n : Int) := by omega
       go_wp2_with fail
       refine (markText_at m _ (by omega) hm2).mono ?_
       rintro e w1 ⟨rfl, hb1⟩
       have hrow1 := RR.out.1.kept (w' := w1) (row := none) ⟨hb1.os, hb1.tape, hb1.output, hb1.size, fun j hj _ => hb1.block j hj⟩ (Or.inr (by simp [Value.ownBlock]))
       have hc := row_cell hrow1 i hlt
       have hc1 : ∃ u, w1.cell? ⟨g, i, none⟩ = some u := by
         rw [hc.1]
         have hl1 := RR.out.1.1
         exact ⟨_, List.getElem?_eq_getElem (by omega)⟩
       obtain ⟨u, hu⟩ := hc1
       have hf := hc.2
       have HX := Lib.hid (And.intro hrow1 hb1)
       clear hc hrow1 hb1
       go_wp2
       go_roundw
       case rel =>
         have hs := row_set HX.out.1 i (.string (mk m))
         rw [HM.out, marks_step k i xs (by rw [HN.out]; exact hlt)] at hs
         exact ⟨i + 1, m + 1, by omega, by omega, by have := HM.out; omega, by have := HM.out; show m + 1 = k + (i + 1); omega, by go_num, by go_num, by rw [HM.out]; exact hs, (RR.out.2.trans (HX.out.2.mono (by have := RR.out.2.size; omega))).setCell (p := ⟨g, i, none⟩) hgo.1 _⟩
       case measure => simp [intOf]; omega
     · obtain rfl : i = n := by omega
       go_wp2
       go_ret
       refine ⟨ret_int (by rw [HM.out]), ?_, RR.out.2⟩
       have := RR.out.1
       rw [List.drop_of_length_le (by rw [HN.out]; omega), List.append_nil] at this
       exact this

set_option maxHeartbeats 1000000 in
theorem heldStringS_at (v : Value) (k b n : Nat) (w : World) (h : w.ownsRow b 9 1 v n ((marks k n).map Value.string)) (hk : 1 ≤ k) (hl : k + n ≤ 1000000000) :
   Calls Try.prog 42 #[v, .int .i64 k] w fun e w' => e = .returned (.int .i64 (k + n : Nat)) ∧ Below w.heap.size w w' := by
 rcases row_shape h with ⟨rfl, rfl⟩ | ⟨g, cap, rfl, hcap⟩
 · go_enter Try.func42, Try.ntmps42
   go_wp2
   go_loop [1, 5] (fun kk i => kk = .int .i64 k ∧ i = .int .i64 0) (fun _ _ => 0)
   case atStart => exact ⟨rfl, rfl⟩
   case round =>
     obtain ⟨rfl, rfl⟩ := hrel
     go_wp2
     go_ret
     exact ⟨by simp, Below.refl _ _⟩
 · have HH := Lib.hid h
   have hgo := h.lt g rfl
   clear h
   go_enter Try.func42, Try.ntmps42
   go_wp2
   go_loopw [1, 5] (fun kk ii wr => ∃ i m : Nat, i ≤ n ∧ 1 ≤ m ∧ m ≤ 1000000000 ∧ Hid (m = k + i) ∧ ii = .int .i64 i ∧ kk = .int .i64 m ∧ Below w.heap.size w wr) (fun _ ii _ => n - (intOf ii).toNat)
   case atStart => exact ⟨0, k, Nat.zero_le _, hk, by omega, rfl, rfl, rfl, Below.refl _ _⟩
   case round =>
     obtain ⟨i, m, hi, hm1, hm2, HM, rfl, rfl, hbel⟩ := hrel
     have RR := Lib.hid hbel
     by_cases hlt : i < n
     · have i1 : (i : Int) < (n : Int) := by omega
       have hc := (row_cell HH.out i hlt).1
       rw [List.getElem?_map, marks_at k n i hlt, ← HM.out] at hc
       have hcr : wr.cell? ⟨g, i, none⟩ = some (.string (mk m)) := (hbel.cell (p := ⟨g, i, none⟩) hgo.2).trans hc
       have hgw : g < wr.heap.size := Nat.lt_of_lt_of_le hgo.2 hbel.size
       clear hc hbel
       go_wp2
       go_region_held3 (fun w' => w'.cell? ⟨g, i, none⟩ = some (.string (mk m))) (first | exact hcr | exact (hb1.cell (p := ⟨g, i, none⟩) hgw).trans hcr)
         (first | (go_at_call 61; refine (markText_at m _ (by omega) hm2).mono ?_; rintro e w1 ⟨rfl, hb1⟩))
       have HB1 := Lib.hid (RR.out.drew.trans (hb1.mono (by have := RR.out.size; simpa using this)))
       clear hb1
       go_wp2
       go_roundw
       case rel => exact ⟨i + 1, m + 1, by omega, by omega, by have := HM.out; omega, by have := HM.out; show m + 1 = k + (i + 1); omega, by go_num, by go_num, HB1.out⟩
       case measure => simp [intOf]; omega
     · obtain rfl : i = n := by omega
       go_wp2
       go_ret
       exact ⟨ret_int (by rw [HM.out]), RR.out⟩

set_option maxHeartbeats 1000000 in
theorem eqStringS_same (v v' : Value) (b b' : Nat) (xs : List ByteArray) (hl : xs.length ≤ 1000000000) (w : World) (h : w.ownsRow b 9 1 v xs.length (xs.map Value.string)) (h' : w.ownsRow b' 9 1 v' xs.length (xs.map Value.string)) :
   Calls Try.prog 40 #[v, v'] w fun e w' => e = .returned (.bool true) ∧ ∃ n, w' = w.drewN n := by
 obtain ⟨n, hn⟩ : ∃ n, xs.length = n := ⟨_, rfl⟩
 rw [hn] at h h' hl
 have HN := Lib.hid hn
 clear hn
 have hs : ∃ a c, v = .slice a n c := by
   rcases row_shape h with ⟨rfl, rfl⟩ | ⟨g, c, rfl, _⟩
   · exact ⟨none, 0, rfl⟩
   · exact ⟨_, _, rfl⟩
 have hs' : ∃ a c, v' = .slice a n c := by
   rcases row_shape h' with ⟨rfl, rfl⟩ | ⟨g, c, rfl, _⟩
   · exact ⟨none, 0, rfl⟩
   · exact ⟨_, _, rfl⟩
 obtain ⟨a, c, rfl⟩ := hs
 obtain ⟨a', c', rfl⟩ := hs'
 have HH := Lib.hid (And.intro h h')
 clear h h'
 go_enter Try.func40, Try.ntmps40
 go_wp2
 go_loopw [5] (fun ii wr => ∃ i : Nat, i ≤ n ∧ ii = .int .i64 i ∧ ∃ m, wr = w.drewN m) (fun ii _ => n - (intOf ii).toNat)
 case atStart => exact ⟨0, Nat.zero_le _, rfl, 0, rfl⟩
 case round =>
   obtain ⟨i, hi, rfl, m, rfl⟩ := hrel
   by_cases hlt : i < n
   · obtain ⟨h1, h2⟩ := HH.out
     rcases row_shape h1 with ⟨_, h0⟩ | ⟨g, cap, e1, _⟩
     · omega
     · rcases row_shape h2 with ⟨_, h0⟩ | ⟨g', cap', e2, _⟩
       · omega
       · cases e1; cases e2
         have c1 := (row_cell h1 i hlt).1
         have c2 := (row_cell h2 i hlt).1
         have hx : (xs.map Value.string)[i]? = some (.string (xs[i]'(by rw [HN.out]; exact hlt))) := by
           rw [List.getElem?_map, List.getElem?_eq_getElem (by rw [HN.out]; exact hlt)]; rfl
         rw [hx] at c1 c2
         generalize (xs[i]'(by rw [HN.out]; exact hlt)) = x at c1 c2
         have i1 : (i : Int) < (n : Int) := by omega
         clear h1 h2 hx
         go_wp2
         go_quiet (fail)
         go_wp2
         go_roundw
         case rel => exact ⟨i + 1, by omega, by go_num, _, rfl⟩
         case measure => simp [intOf]; omega
   · go_wp2
     go_ret
     exact ⟨rfl, m, rfl⟩

theorem markStringS_one (v : Value) (b : Nat) (xs : List ByteArray) (w : World) (h : w.ownsRow b 9 1 v xs.length (xs.map Value.string)) (hl : 1 + xs.length ≤ 1000000000) (hb : b ≤ w.heap.size) :
   Calls Try.prog 41 #[v, .int .i64 1] w fun e w' => e = .returned (.int .i64 (1 + xs.length : Nat)) ∧ w'.ownsRow b 9 1 v xs.length ((marks 1 xs.length).map Value.string) ∧ Below b w w' :=
 markStringS_at v 1 b xs w h (Nat.le_refl _) hl hb
theorem heldStringS_one (v : Value) (b n : Nat) (w : World) (h : w.ownsRow b 9 1 v n ((marks 1 n).map Value.string)) (hl : 1 + n ≤ 1000000000) :
   Calls Try.prog 42 #[v, .int .i64 1] w fun e w' => e = .returned (.int .i64 (1 + n : Nat)) ∧ Below w.heap.size w w' :=
 heldStringS_at v 1 b n w h (Nat.le_refl _) hl
end Go.Proofs.Ytjcgbpjgoacdjaa
