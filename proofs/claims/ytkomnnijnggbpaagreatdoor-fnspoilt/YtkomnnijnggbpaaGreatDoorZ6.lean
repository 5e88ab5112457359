/- The laws' draw of a right way. -/
import Derived.Test.YtkomnnijnggbpaaGreatDoorAt
import Derived.Test.YtkomnnijnggbpaaGreatDoorZ0
import Derived.Test.YtkomnnijnggbpaaGreatDoorZ1
import Derived.Test.YtkomnnijnggbpaaGreatDoorZ2
import Derived.Test.YtkomnnijnggbpaaGreatDoorProg
import Derived.Test.YtkomnnijnggbpaaGreatDoorDigs
namespace Go.Proofs.YtkomnnijnggbpaaGreatDoor
open Go.RowKit
set_option linter.unusedVariables false

def atOf (len : Nat) (zs : List Int) (i : Nat) : Nat := if i < len then (zs.getD i 0).toNat else (i * 7 + len) % 256
theorem at_is (a : Option Addr) (len cap : Nat) (zs : List Int) (i p : Nat) (w : World) (hr : Bytes w p a len zs) (hl : len ≤ 1048576) (hi : i ≤ 1000000) :
   Calls Tryz.prog 24 #[.slice a len cap, .int .i64 i] w fun e w' => e = .returned (.int .i64 (atOf len zs i : Nat)) ∧ w' = w := by
 unfold atOf
 by_cases h : i < len
 · obtain ⟨b, off, rfl, hb, hne, hc, hr1, hr2⟩ := hr.2 i h
   rw [if_pos h]
   obtain ⟨z, hz⟩ : ∃ z, zs.getD i 0 = z := ⟨_, rfl⟩
   rw [hz] at hc hr1 hr2 ⊢
   obtain ⟨z, rfl⟩ := Int.eq_ofNat_of_zero_le hr1
   have i1 : (i : Int) < (len : Int) := by omega
   rw [Int.toNat_natCast]
   clear hr hz
   go_enter Tryz.func24, Tryz.ntmps24
   go_wp2
   go_ret
   exact ⟨rfl, rfl⟩
 · rw [if_neg h]
   clear hr
   go_enter Tryz.func24, Tryz.ntmps24
   go_wp2
   go_ret
   exact ⟨ret_int (by omega), rfl⟩
def confE (len : Nat) (zs : List Int) : Nat := 1 + atOf len zs 1 % 16
def confZ (len : Nat) (zs : List Int) : Nat := 1 + atOf len zs 2 % 9
def confP (len : Nat) (zs : List Int) : Bool := ((atOf len zs 3 : Int) % 2) == 0
theorem conf_right (len : Nat) (zs : List Int) : 1 ≤ confE len zs ∧ confE len zs ≤ 16 ∧ 1 ≤ confZ len zs ∧ confZ len zs ≤ 9 := by unfold confE confZ; omega
theorem conf_ok' (len : Nat) (zs : List Int) : confOk ⟨(confE len zs : Int), (confZ len zs : Int), confP len zs⟩ = true := by
 have := conf_right len zs
 unfold confOk
 simp
 omega
theorem sizeConf7 : (Tryz.prog.info? 26).map (·.size) = some 3 := by kernel_rfl
set_option maxHeartbeats 1000000 in
set_option maxRecDepth 100000 in
theorem aConfig_at (a : Option Addr) (len cap : Nat) (zs : List Int) (w : World) (hr : Bytes w w.heap.size a len zs) (hl : len ≤ 1048576) :
   Calls Tryz.prog 25 #[.slice a len cap] w fun r w' => r = .returned (.agg #[.int .i64 (confE len zs : Nat), .int .i64 (confZ len zs : Nat), .bool (confP len zs)]) ∧ Below w.heap.size w w' := by
 have B0 := Lib.hid (one_below w (.cells #[.int .i64 0, .int .i64 0, .bool false] 26))
 have X0 := Lib.hid (alloc_at w (.cells #[.int .i64 0, .int .i64 0, .bool false] 26))
 have HR := Lib.hid (below_bytes hr B0.out)
 clear hr
 go_enter Tryz.func25, Tryz.ntmps25
 go_wp2_with fail
 refine (at_is a len cap zs 1 _ _ HR.out hl (by omega)).mono ?_
 rintro e w1 ⟨rfl, rfl⟩
 go_wp2_with fail
 refine (at_is a len cap zs 2 _ _ HR.out hl (by omega)).mono ?_
 rintro e w1 ⟨rfl, rfl⟩
 go_wp2_with fail
 refine (at_is a len cap zs 3 _ _ HR.out hl (by omega)).mono ?_
 rintro e w1 ⟨rfl, rfl⟩
 obtain ⟨w0, hw0⟩ : ∃ W, w.alloc (.cells #[.int .i64 0, .int .i64 0, .bool false] 26) = W := ⟨_, rfl⟩
 rw [hw0] at B0 X0 ⊢
 have hb := X0.out
 have y0 : w0.cell? ⟨w.heap.size, 0, none⟩ = some (.int .i64 0) := by simp [World.cell?, hb]
 have y1 : w0.cell? ⟨w.heap.size, 1, none⟩ = some (.int .i64 0) := by simp [World.cell?, hb]
 have y2 : w0.cell? ⟨w.heap.size, 2, none⟩ = some (.bool false) := by simp [World.cell?, hb]
 have z0 : w0.frozen? ⟨w.heap.size, 0, none⟩ = false := by simp [World.frozen?, hb]
 have z1 : w0.frozen? ⟨w.heap.size, 1, none⟩ = false := by simp [World.frozen?, hb]
 have z2 : w0.frozen? ⟨w.heap.size, 2, none⟩ = false := by simp [World.frozen?, hb]
 clear hb hw0 HR
 have HE := Lib.hid (show confE len zs = 1 + atOf len zs 1 % 16 from rfl)
 have HZ := Lib.hid (show confZ len zs = 1 + atOf len zs 2 % 9 from rfl)
 have HP := Lib.hid (show confP len zs = (((atOf len zs 3 : Int) % 2) == 0) from rfl)
 obtain ⟨x, hx⟩ : ∃ x, atOf len zs 1 = x := ⟨_, rfl⟩
 obtain ⟨y, hy⟩ : ∃ x, atOf len zs 2 = x := ⟨_, rfl⟩
 obtain ⟨u, hu⟩ : ∃ x, atOf len zs 3 = x := ⟨_, rfl⟩
 rw [hx] at HE ⊢
 rw [hy] at HZ ⊢
 rw [hu] at HP ⊢
 clear hx hy hu
 obtain ⟨e, he⟩ : ∃ e, 1 + x % 16 = e := ⟨_, rfl⟩
 obtain ⟨z, hz⟩ : ∃ z, 1 + y % 9 = z := ⟨_, rfl⟩
 have he' : (1 : Int) + (x : Int) % 16 = (e : Int) := by omega
 have hz' : (1 : Int) + (y : Int) % 9 = (z : Int) := by omega
 rw [he] at HE
 rw [hz] at HZ
 obtain ⟨p, hp⟩ : ∃ p, (((u : Int) % 2) == 0) = p := ⟨_, rfl⟩
 rw [hp] at HP
 clear he hz
 go_wp2_with fail
 have hX := set_block (k := 2) (.bool p) (set_block (k := 1) (.int .i64 z) (set_block (k := 0) (.int .i64 e) X0.out))
 refine bodyPost_ret (results_cell_row Tryz.results25 _ _ w.heap.size _ _ _ _ rfl hX Tryz.underlying26 rfl (by rw [sizeConf7]; rfl)) rfl ?_
 exact ⟨by rw [HE.out, HZ.out, HP.out]; rfl, ((B0.out.setCell (p := ⟨w.heap.size, 0, none⟩) (Nat.le_refl _) _).setCell (p := ⟨w.heap.size, 1, none⟩) (Nat.le_refl _) _).setCell (p := ⟨w.heap.size, 2, none⟩) (Nat.le_refl _) _⟩
set_option maxHeartbeats 400000 in
theorem specDecText_pos (n : Int) (w : World) (h0 : 0 < n) (h1 : n ≤ 9223372036854775807) :
   Calls Tryz.prog 84 #[.int .i64 n] w fun e w' => e = .returned (.string ⟨(Lib.itoa n).toArray⟩) ∧ w = w' := by
 have hz' : (n == 0) = false := by simp; omega
 have hn0 : ¬ n < 0 := by omega
 go_enter Tryz.func84, Tryz.ntmps84
 go_wp2
 go_loop [3, 4, 5] (fun out m d => ∃ (k : Int) (l : List UInt8), 0 ≤ k ∧ k ≤ 9223372036854775807 ∧ l.length ≤ 20 ∧ m = .int .i64 k ∧ out = .string ⟨l.toArray⟩ ∧ Told n k l) (fun _ m _ => (intOf m).natAbs)
 case atStart => exact ⟨n, [], by omega, h1, by simp, rfl, rfl, by unfold Told digs; rw [if_neg (by omega)]; simp⟩
 case round =>
   obtain ⟨k, l, hk0, hk1, hl, rfl, rfl, HT⟩ := hrel
   by_cases hk : k = 0
   · subst hk
     go_wp2
     go_ret
     exact ⟨ret_text (by rw [HT.done]; unfold Lib.itoa; rw [if_neg (by omega)]; congr 1; omega), rfl⟩
   · have hk' : (k != 0) = true := by simpa using hk
     have hk2 : 0 < k := by omega
     have HT2 := HT.next hk (k' := k / 10) (by omega)
     clear hk
     go_wp2
     go_round
     case rel => exact ⟨k / 10, _, by omega, by omega, HT2.len (by omega) h1, rfl, congrArg Value.string (digit_text _ (k.natAbs % 10) l (by omega) (by omega)), HT2⟩
     case measure => simp [intOf]; omega

theorem neg_parts (k : Int) (h : k ≤ 0) : k.tmod 10 = -((k.natAbs % 10 : Nat) : Int) ∧ k.tdiv 10 = -((k.natAbs / 10 : Nat) : Int) := by
 obtain ⟨u, hu⟩ : ∃ u : Nat, k = -(u : Int) := ⟨k.natAbs, by omega⟩
 subst hu
 rw [Int.neg_tmod, Int.neg_tdiv, Int.natAbs_neg, Int.natAbs_natCast]
 exact ⟨by rw [Int.tmod_eq_emod_of_nonneg (by omega)]; omega, by rw [Int.tdiv_eq_ediv_of_nonneg (by omega)]; omega⟩

set_option maxHeartbeats 400000 in
theorem specDecText_neg (n : Int) (w : World) (h0 : -9223372036854775808 ≤ n) (h1 : n < 0) :
   Calls Tryz.prog 84 #[.int .i64 n] w fun e w' => e = .returned (.string ⟨(Lib.itoa n).toArray⟩) ∧ w = w' := by
 have hz' : (n == 0) = false := by simp; omega
 go_enter Tryz.func84, Tryz.ntmps84
 go_wp2
 go_loop [3, 4, 5] (fun out m d => ∃ (k : Int) (l : List UInt8), -9223372036854775808 ≤ k ∧ k ≤ 0 ∧ l.length ≤ 20 ∧ m = .int .i64 k ∧ out = .string ⟨l.toArray⟩ ∧ Told n k l) (fun _ m _ => (intOf m).natAbs)
 case atStart => exact ⟨n, [], h0, by omega, by simp, rfl, rfl, by unfold Told digs; rw [if_neg (by omega)]; simp⟩
 case round =>
   obtain ⟨k, l, hk0, hk1, hl, rfl, rfl, HT⟩ := hrel
   by_cases hk : k = 0
   · subst hk
     go_wp2
     go_ret
     refine ⟨congrArg (fun b => Ending.returned (.string b)) (bytes_ext ?_), rfl⟩
     rw [HT.done]; unfold Lib.itoa; rw [if_pos (by omega)]; simp
   · have hk' : (k != 0) = true := by simpa using hk
     have hk2 : k < 0 := by omega
     have np := neg_parts k hk1
     have HT2 := HT.next hk (k' := k.tdiv 10) (by omega)
     have t1 : -10 < k.tmod 10 := by omega
     have t2 : k.tmod 10 ≤ 0 := by omega
     have NP := Lib.hid np
     clear hk np
     by_cases hd : k.tmod 10 < 0
     · go_wp2
       go_round
       case rel => exact ⟨k.tdiv 10, _, by have := NP.out; omega, by have := NP.out; omega, HT2.len h0 (by omega), rfl, congrArg Value.string (digit_text _ (k.natAbs % 10) l (by omega) (by have := NP.out; omega)), HT2⟩
       case measure => show (k.tdiv 10).natAbs < k.natAbs; have := NP.out; omega
     · go_wp2
       go_round
       case rel => exact ⟨k.tdiv 10, _, by have := NP.out; omega, by have := NP.out; omega, HT2.len h0 (by omega), rfl, congrArg Value.string (digit_text _ (k.natAbs % 10) l (by omega) (by have := NP.out; omega)), HT2⟩
       case measure => show (k.tdiv 10).natAbs < k.natAbs; have := NP.out; omega

theorem specDecText (n : Int) (w : World) (h0 : -9223372036854775808 ≤ n) (h1 : n ≤ 9223372036854775807) :
   Calls Tryz.prog 84 #[.int .i64 n] w fun e w' => e = .returned (.string ⟨(Lib.itoa n).toArray⟩) ∧ w = w' := by
 by_cases hz : n = 0
 · subst hz
   go_enter Tryz.func84, Tryz.ntmps84
   go_wp2
   go_ret
   exact ⟨by simp [Lib.itoa, Lib.decDigits], rfl⟩
 · by_cases hn : n < 0
   · exact specDecText_neg n w h0 hn
   · exact specDecText_pos n w (by omega) h1
end Go.Proofs.YtkomnnijnggbpaaGreatDoor
