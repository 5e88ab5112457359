/- The laws' look at a byte of a code. -/
import Derived.Test.YtkomnnijnggbpaaProg
import Derived.Test.YtkomnnijnggbpaaZ0
import Derived.Lib.ItoaNum
import Derived.Laws.AppendOwn
import Derived.RangeFuncBox
namespace Go.Proofs.Ytkomnnijnggbpaa
open Go.RowKit
set_option linter.unusedVariables false

def SomeAt (w : World) (e : Ending) (w' : World) : Prop := ∃ x : Nat, x ≤ 255 ∧ e = .returned (.int .i64 x) ∧ w = w'

theorem at_some (a : Option Addr) (len cap : Nat) (zs : List Int) (i p : Nat) (w : World) (hr : Bytes w p a len zs) (hl : len ≤ 1048576) (hi : i ≤ 1000000) :
   Calls Try.prog 8 #[.slice a len cap, .int .i64 i] w (SomeAt w) := by
 by_cases h : i < len
 · obtain ⟨b, off, rfl, hb, hne, hc, hr1, hr2⟩ := hr.2 i h
   obtain ⟨z, hz⟩ : ∃ z, zs.getD i 0 = z := ⟨_, rfl⟩
   rw [hz] at hc hr1 hr2
   obtain ⟨z, rfl⟩ := Int.eq_ofNat_of_zero_le hr1
   have i1 : (i : Int) < (len : Int) := by omega
   clear hr hz
   go_enter Try.func8, Try.ntmps8
   go_wp2
   go_ret
   exact ⟨z, by omega, rfl, rfl⟩
 · clear hr
   go_enter Try.func8, Try.ntmps8
   go_wp2
   go_ret
   exact ⟨(i * 7 + len) % 256, by omega, ret_int (by omega), rfl⟩
def digs (u : Nat) : List UInt8 := if u = 0 then [] else Lib.decDigits u

theorem digs_step (u : Nat) (h : u ≠ 0) : digs u = digs (u / 10) ++ [UInt8.ofNat (48 + u % 10)] := by
 unfold digs
 rw [if_neg h]
 by_cases h10 : u < 10
 · have e : u / 10 = 0 := by omega
   have e2 : u % 10 = u := by omega
   rw [e, if_pos rfl, e2, Lib.decDigits_one h10]; rfl
 · rw [if_neg (by omega), Lib.decDigits, dif_neg h10]

theorem nDigits_le (u : Nat) (h : u < 18446744073709551616) : Lib.nDigits u ≤ 20 := by
 by_cases h0 : u = 0
 · subst h0; rw [Lib.nDigits_small (by omega)]; omega
 · have := Lib.numDigits_eq u (by omega) h
   have h2 := this.1
   have h3 := this.2
   split at h2 <;> omega

def Told (n k : Int) (l : List UInt8) : Prop := digs k.natAbs ++ l = Lib.decDigits n.natAbs

theorem Told.len {n k : Int} {l : List UInt8} (h : Told n k l) (h0 : -9223372036854775808 ≤ n) (h1 : n ≤ 9223372036854775807) : l.length ≤ 20 := by
 have e := congrArg List.length h
 rw [List.length_append, Lib.decDigits_length] at e
 have := nDigits_le n.natAbs (by omega)
 omega

theorem digit_fin : ∀ r : Fin 10, ((⟨#[48, 49, 50, 51, 52, 53, 54, 55, 56, 57]⟩ : ByteArray).extract r.val (r.val + 1)).data.toList = [UInt8.ofNat (48 + r.val)] := by decide +kernel


theorem digit_text (d : Int) (r : Nat) (l : List UInt8) (h : r < 10) (e : d = r) :
   (⟨#[48, 49, 50, 51, 52, 53, 54, 55, 56, 57]⟩ : ByteArray).extract d.toNat (d + 1).toNat ++ ⟨l.toArray⟩ = ⟨(UInt8.ofNat (48 + r) :: l).toArray⟩ := by
 subst e
 apply bytes_ext
 have e1 : ((r : Int) + 1).toNat = r + 1 := by omega
 have := digit_fin ⟨r, h⟩
 simp only at this
 rw [e1, Int.toNat_natCast, ByteArray.data_append, Array.toList_append, this]
 simp

theorem Told.next {n k k' : Int} {l : List UInt8} (h : Told n k l) (hk : k ≠ 0) (e : k'.natAbs = k.natAbs / 10) : Told n k' (UInt8.ofNat (48 + k.natAbs % 10) :: l) := by
 unfold Told at *
 rw [e, ← h, digs_step k.natAbs (by omega)]
 simp

theorem Told.done {n : Int} {l : List UInt8} (h : Told n 0 l) : l = Lib.decDigits n.natAbs := by
 unfold Told digs at h; simpa using h


set_option maxHeartbeats 400000 in
theorem specDecText_pos (n : Int) (w : World) (h0 : 0 < n) (h1 : n ≤ 9223372036854775807) :
   Calls Try.prog 48 #[.int .i64 n] w fun e w' => e = .returned (.string ⟨(Lib.itoa n).toArray⟩) ∧ w = w' := by
 have hz' : (n == 0) = false := by simp; omega
 have hn0 : ¬ n < 0 := by omega
 go_enter Try.func48, Try.ntmps48
 go_wp2
 go_loop [3, 4, 5] (fun out m d => ∃ (k : Int) (l : List UInt8), 0 ≤ k ∧ k ≤ 9223372036854775807 ∧ l.length ≤ 20 ∧ m = .int .i64 k ∧ out = .string ⟨l.toArray⟩ ∧ Told n k l) (fun _ m _ => (intOf m).natAbs)
 case atStart => exact ⟨n, [], by omega, h1, by simp, rfl, rfl, by unfold Told digs; rw [if_neg (by omega)]; simp⟩
 case round =>
   obtain ⟨k, l, hk0, hk1, hl, rfl, rfl, HT⟩ := hrel
   by_cases hk : k = 0
   · subst hk
     go_wp2
     go_ret
     exact ⟨ret_text (by rw [HT.done]; unfold Lib.itoa; rw [if_neg (by omega)]; congr 1; omega), rfl⟩
   · have hk' : (k != 0) = true := by simpa using hk
     have hk2 : 0 < k := by omega
     have HT2 := HT.next hk (k' := k / 10) (by omega)
     clear hk
     go_wp2
     go_round
     case rel => exact ⟨k / 10, _, by omega, by omega, HT2.len (by omega) h1, rfl, congrArg Value.string (digit_text _ (k.natAbs % 10) l (by omega) (by omega)), HT2⟩
     case measure => simp [intOf]; omega

theorem neg_parts (k : Int) (h : k ≤ 0) : k.tmod 10 = -((k.natAbs % 10 : Nat) : Int) ∧ k.tdiv 10 = -((k.natAbs / 10 : Nat) : Int) := by
 obtain ⟨u, hu⟩ : ∃ u : Nat, k = -(u : Int) := ⟨k.natAbs, by omega⟩
 subst hu
 rw [Int.neg_tmod, Int.neg_tdiv, Int.natAbs_neg, Int.natAbs_natCast]
 exact ⟨by rw [Int.tmod_eq_emod_of_nonneg (by omega)]; omega, by rw [Int.tdiv_eq_ediv_of_nonneg (by omega)]; omega⟩

set_option maxHeartbeats 400000 in
theorem specDecText_neg (n : Int) (w : World) (h0 : -9223372036854775808 ≤ n) (h1 : n < 0) :
   Calls Try.prog 48 #[.int .i64 n] w fun e w' => e = .returned (.string ⟨(Lib.itoa n).toArray⟩) ∧ w = w' := by
 have hz' : (n == 0) = false := by simp; omega
 go_enter Try.func48, Try.ntmps48
 go_wp2
 go_loop [3, 4, 5] (fun out m d => ∃ (k : Int) (l : List UInt8), -9223372036854775808 ≤ k ∧ k ≤ 0 ∧ l.length ≤ 20 ∧ m = .int .i64 k ∧ out = .string ⟨l.toArray⟩ ∧ Told n k l) (fun _ m _ => (intOf m).natAbs)
 case atStart => exact ⟨n, [], h0, by omega, by simp, rfl, rfl, by unfold Told digs; rw [if_neg (by omega)]; simp⟩
 case round =>
   obtain ⟨k, l, hk0, hk1, hl, rfl, rfl, HT⟩ := hrel
   by_cases hk : k = 0
   · subst hk
     go_wp2
     go_ret
     refine ⟨congrArg (fun b => Ending.returned (.string b)) (bytes_ext ?_), rfl⟩
     rw [HT.done]; unfold Lib.itoa; rw [if_pos (by omega)]; simp
   · have hk' : (k != 0) = true := by simpa using hk
     have hk2 : k < 0 := by omega
     have np := neg_parts k hk1
     have HT2 := HT.next hk (k' := k.tdiv 10) (by omega)
     have t1 : -10 < k.tmod 10 := by omega
     have t2 : k.tmod 10 ≤ 0 := by omega
     have NP := Lib.hid np
     clear hk np
     by_cases hd : k.tmod 10 < 0
     · go_wp2
       go_round
       case rel => exact ⟨k.tdiv 10, _, by have := NP.out; omega, by have := NP.out; omega, HT2.len h0 (by omega), rfl, congrArg Value.string (digit_text _ (k.natAbs % 10) l (by omega) (by have := NP.out; omega)), HT2⟩
       case measure => show (k.tdiv 10).natAbs < k.natAbs; have := NP.out; omega
     · go_wp2
       go_round
       case rel => exact ⟨k.tdiv 10, _, by have := NP.out; omega, by have := NP.out; omega, HT2.len h0 (by omega), rfl, congrArg Value.string (digit_text _ (k.natAbs % 10) l (by omega) (by have := NP.out; omega)), HT2⟩
       case measure => show (k.tdiv 10).natAbs < k.natAbs; have := NP.out; omega

theorem specDecText (n : Int) (w : World) (h0 : -9223372036854775808 ≤ n) (h1 : n ≤ 9223372036854775807) :
   Calls Try.prog 48 #[.int .i64 n] w fun e w' => e = .returned (.string ⟨(Lib.itoa n).toArray⟩) ∧ w = w' := by
 by_cases hz : n = 0
 · subst hz
   go_enter Try.func48, Try.ntmps48
   go_wp2
   go_ret
   exact ⟨by simp [Lib.itoa, Lib.decDigits], rfl⟩
 · by_cases hn : n < 0
   · exact specDecText_neg n w h0 hn
   · exact specDecText_pos n w (by omega) h1
def OwnC (B : Nat) (w : World) (v : Value) (ys : List Cel) : Prop := w.ownsRow B 36 5 v ys.length (ys.flatMap celCells)
theorem OwnC.row {B : Nat} {w : World} {a : Option Addr} {n c : Nat} {ys : List Cel} (h : OwnC B w (.slice a n c) ys) : CelRow w a n c ys := by
 rcases h.2 with ⟨h0, hn⟩ | ⟨g, cap, cur, h1, _, h3, hc, _, hs, ht⟩
 · cases h0
   refine ⟨hn, Nat.le_refl _, fun k y hk => ?_⟩
   have := (List.getElem?_eq_some_iff.1 hk).1
   omega
 · cases h1
   refine ⟨rfl, hc, fun k y hk => ⟨g, rfl, ?_⟩⟩
   have hk' := (List.getElem?_eq_some_iff.1 hk).1
   have hj : ∀ j, j < 5 → w.cell? ⟨g, k * 5 + j, none⟩ = (celCells y)[j]? := fun j hj => by
     have h1 := cel_cell ys k j y hk hj
     rw [← ht, List.getElem?_take, if_pos (by omega)] at h1
     simp only [World.cell?, h3]
     simpa using h1
   exact ⟨hj 0 (by omega), hj 1 (by omega), hj 2 (by omega), hj 3 (by omega), hj 4 (by omega)⟩
theorem OwnC.grown {B p : Nat} {w w' : World} {v : Value} {ys : List Cel} (h : OwnC B w v ys) (hg : w.grownBy w' (some p)) (hp : p < B) : OwnC B w' v ys := by
 refine World.ownsRow.kept h hg ?_
 cases hv : v.ownBlock with
 | none => exact .inl rfl
 | some k =>
   refine .inr (fun e => ?_)
   have := (h.lt k hv).1
   cases e
   omega
theorem OwnC.below {B : Nat} {w w' : World} {v : Value} {ys : List Cel} (h : OwnC B w v ys) (hb : Below w.heap.size w w') : OwnC B w' v ys := by
 refine World.ownsRow.kept h (grown_of_below hb) ?_
 cases hv : v.ownBlock <;> simp
theorem OwnC.new {B : Nat} {w : World} {v : Value} {ys : List Cel} (h : OwnC B w v ys) (o : Obj) : OwnC B (w.alloc o) v ys := World.ownsRow.alloc h o
theorem OwnC.lt {B : Nat} {w : World} {v : Value} {ys : List Cel} (h : OwnC B w v ys) {k : Nat} (hk : v.ownBlock = some k) : B ≤ k ∧ k < w.heap.size := World.ownsRow.lt h k hk
theorem own_base {B B' : Nat} {w : World} {v : Value} {ys : List Cel} (h : OwnC B w v ys) (hb : B' ≤ B) : OwnC B' w v ys := by
 refine ⟨h.1, ?_⟩
 rcases h.2 with h2 | ⟨g, cap, cur, h1, h2, r⟩
 · exact .inl h2
 · exact .inr ⟨g, cap, cur, h1, Nat.le_trans hb h2, r⟩
theorem celCells_one (ys : List Cel) : ∀ u ∈ ys.flatMap celCells, u.oneCell' = true := by
 intro u hu
 obtain ⟨y, _, hy⟩ := List.mem_flatMap.1 hu
 simp only [celCells, List.mem_cons, List.not_mem_nil, or_false] at hy
 rcases hy with rfl | rfl | rfl | rfl | rfl <;> rfl

theorem getFix_no {l : List UInt8} {a b : Int} (h : b < 1 ∨ 4 < b ∨ a < 0 ∨ l.length < a ∨ l.length - a < b) : getFix l a b = -1 := by unfold getFix; rw [if_neg (by omega)]
theorem getFix_yes {l : List UInt8} {a b : Nat} (h1 : 1 ≤ b) (h4 : b ≤ 4) (h : a + b ≤ l.length) : getFix l a b = fixVal ((l.drop a).take b) := by
 unfold getFix; rw [if_pos (by omega)]; simp

def IntIs (w : World) (n : Int) (e : Ending) (w' : World) : Prop := e = .returned (.int .i64 n) ∧ Below w.heap.size w w'

theorem below_rd {w w1 : World} {o : Obj} (g : (w.alloc o).grownBy w1 (some w.heap.size)) : Below w.heap.size w w1 := below_new (World.grownBy_alloc w o none) g

set_option maxHeartbeats 400000 in
theorem implGetFix (s : ByteArray) (a b : Int) (w : World) (hs : s.size ≤ maxLen) :
   Calls Try.prog 12 #[.string s, .int .i64 a, .int .i64 b] w (IntIs w (getFix s.data.toList a b)) := by
 have hl : s.data.toList.length = s.size := by simp
 by_cases hn : b < 1 ∨ 4 < b ∨ a < 0 ∨ s.size < a ∨ s.size - a < b
 · have HR := Lib.hid (getFix_no (l := s.data.toList) (by rw [hl]; exact hn))
   have HN := Lib.hid hn
   clear hn hl
   go_enter Try.func12, Try.ntmps12
   go_wp2_with fail
   refine (takeFix_no _ s a b _ (rd_new w s a) hs HN.out).mono ?_
   rintro e w1 ⟨rfl, m, rfl⟩
   go_wp2
   go_ret
   exact ⟨ret_int HR.out.symm, ((Below.refl _ _).alloc (Nat.le_refl _) _).trans (below_draws _)⟩
 · obtain ⟨a, rfl⟩ := Int.eq_ofNat_of_zero_le (by omega : 0 ≤ a)
   obtain ⟨b, rfl⟩ := Int.eq_ofNat_of_zero_le (by omega : 0 ≤ b)
   have h1 : 1 ≤ b := by omega
   have h4 : b ≤ 4 := by omega
   have h5 : a + b ≤ s.size := by omega
   have HR := Lib.hid (getFix_yes (l := s.data.toList) h1 h4 (by rw [hl]; exact h5))
   clear hn hl
   go_enter Try.func12, Try.ntmps12
   go_wp2_with fail
   refine (takeFix_yes _ s a b _ (rd_new w s a) hs h1 h4 h5).mono ?_
   rintro e w1 ⟨rfl, hr, hg⟩
   have HG := Lib.hid hg
   clear hr hg
   go_wp2
   go_ret
   exact ⟨ret_int HR.out.symm, below_rd HG.out⟩
theorem big_no (a : Option Addr) (len cap : Nat) (w : World) (h : len ≤ 1048576) :
   Calls Try.prog 6 #[.slice a len cap] w fun e w' => e = .returned (.bool false) ∧ w = w' := by
 have hd : decide (1048576 < (len : Int)) = false := by simp; omega
 go_enter Try.func6, Try.ntmps6
 go_wp2
 go_ret
 exact ⟨rfl, rfl⟩
theorem big_yes (a : Option Addr) (len cap : Nat) (w : World) (h : ¬ len ≤ 1048576) :
   Calls Try.prog 6 #[.slice a len cap] w fun e w' => e = .returned (.bool true) ∧ w = w' := by
 have hd : decide (1048576 < (len : Int)) = true := by simp; omega
 go_enter Try.func6, Try.ntmps6
 go_wp2
 go_ret
 exact ⟨rfl, rfl⟩
end Go.Proofs.Ytkomnnijnggbpaa
