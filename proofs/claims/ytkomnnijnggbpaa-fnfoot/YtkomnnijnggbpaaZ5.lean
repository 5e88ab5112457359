/- The program's Hash, and its iterator over the places of a key. -/
import Derived.RangeFuncNested
import Derived.RangeFuncBound
import Derived.RangeFuncCalls
import Derived.RangeFuncLeaves
import Derived.RangeFuncBox
import Derived.Shelf.Abstract
import Derived.Shelf.RegionOpen
import Derived.WalkKit
import Derived.OwnWalkIn
import Derived.TacticsInMore
import Derived.LoopNIn
import Derived.LoopIn
import Derived.Test.YtkomnnijnggbpaaFilterS
import Derived.Test.YtkomnnijnggbpaaNamesS
namespace Go.Proofs.Ytkomnnijnggbpaa
open Go.RowKit Go.Shelf
set_option linter.unusedVariables false
attribute [local go_sem] Oper.semAt_some

set_option maxHeartbeats 400000 in
theorem implHashOf (s : ByteArray) (w : World) (hs : s.size ≤ maxLen) :
   Calls Try.prog 69 #[.string s] w fun e w' => e = .returned (.int .u32 (hash s.data.toList : Nat)) ∧ w' = w := by
 unfold maxLen at hs
 go_enter Try.func69, Try.ntmps69
 go_wp2_with fail
 go_loop [3, 7] (fun x i => ∃ k : Nat, k ≤ s.size ∧ i = .int .i64 k ∧ x = .int .u32 (hashF 2166136261 (s.data.toList.take k) : Nat)) (fun _ i => s.size - (intOf i).toNat)
 case atStart => exact ⟨0, Nat.zero_le _, rfl, rfl⟩
 case round =>
   obtain ⟨k, hk, rfl, rfl⟩ := hrel
   have hX := hashF_lt (s.data.toList.take k) (x := 2166136261) (by omega)
   by_cases hlt : k < s.size
   · have HS := Lib.hid (show hashF 2166136261 (s.data.toList.take (k + 1)) = hstep (hashF 2166136261 (s.data.toList.take k)) s[k] by rw [take_snoc s k hlt, hashF_snoc])
     have HB := Lib.hid (hx_byte _ s[k] hX)
     generalize hashF 2166136261 (s.data.toList.take k) = X at HS HB hX ⊢
     have HX := Lib.hid hX
     clear hX
     go_wp2
     go_round
     case rel => exact ⟨k + 1, by omega, by go_num, congrArg (Value.int IntKind.u32) (by rw [HB.out, HS.out])⟩
     case measure => simp [intOf]; omega
   · obtain rfl : k = s.size := by omega
     have e0 : s.data.toList.take s.size = s.data.toList := List.take_of_length_le (by simp)
     rw [e0] at hX ⊢
     go_wp2
     go_ret
     exact ⟨by rw [hash_end]; rfl, rfl⟩

theorem bitsOk_at (b : Int) (w : World) : Calls Try.prog 41 #[.int .i64 b] w fun e w' => e = .returned (.bool (decide (1 ≤ b ∧ b ≤ 100000))) ∧ w' = w := by
 by_cases h1 : 1 ≤ b
 · by_cases h2 : b ≤ 100000
   · go_enter Try.func41, Try.ntmps41
     go_wp2
     go_ret
     exact ⟨ret_bool (by rw [decide_eq_true (show 1 ≤ b ∧ b ≤ 100000 from ⟨h1, h2⟩)]), rfl⟩
   · go_enter Try.func41, Try.ntmps41
     go_wp2
     go_ret
     exact ⟨ret_bool (by simp; omega), rfl⟩
 · go_enter Try.func41, Try.ntmps41
   go_wp2
   go_ret
   exact ⟨ret_bool (by simp; omega), rfl⟩

theorem implBitAt (p r : Nat) (hp : p % 8 = r) (hb : p < 1000000) (w : World) : Calls Try.prog 43 #[.int .i64 p] w fun e w' => e = .returned (.int .u8 (2 ^ min r 8 % 256)) ∧ w' = w := by
 have hr8 : r < 8 := by omega
 have e5 : (p : Int).tmod 8 = (r : Int) := by rw [Int.tmod_eq_emod_of_nonneg (by omega)]; omega
 have e4 : IntKind.i64.wrap (r : Int) = (r : Int) := IntWalk.i64_in _ (by omega)
 go_enter Try.func43, Try.ntmps43
 go_wp2
 go_ret
 refine ⟨?_, rfl⟩
 rw [Nat.min_eq_left (by omega)]
 rfl

theorem placesOf_at (n : Nat) (s : ByteArray) (b : Int) (w : World) :
   CallsIn Fence.wide n Try.prog 42 #[.string s, .int .i64 b] w fun e w' => e = .returned (.func (.func 68) #[] #[.pointer (some ⟨w.heap.size + 1, 0, none⟩), .pointer (some ⟨w.heap.size, 0, none⟩)]) ∧
     w' = (w.alloc (.cells #[.string s] 9)).alloc (.cells #[.int .i64 b] 3) := by
 refine callsIn_wide.2 ?_
 go_enter Try.func42, Try.ntmps42
 go_wp2
 go_ret
 exact ⟨rfl, rfl⟩

def KeptTwo (A B : Nat) (W W' : World) : Prop := W'.heap[A]? = W.heap[A]? ∧ W'.heap[B]? = W.heap[B]?
theorem KeptTwo.trans {A B : Nat} {X Y Z : World} (h : KeptTwo A B X Y) (k : KeptTwo A B Y Z) : KeptTwo A B X Z := ⟨k.1.trans h.1, k.2.trans h.2⟩
theorem keptTwo_put {A B : Nat} {w : World} (hA : A < w.heap.size) (hB : B < w.heap.size) : ∀ (W : World) (l : Nat) (o o' : Obj), w.heap.size ≤ l → W.heap[l]? = some o → o.isCells = false → o.isWalk = false → KeptTwo A B W (W.putObj l o') :=
 fun W l o o' hl _ _ _ => ⟨World.putObj_heap_other (by omega), World.putObj_heap_other (by omega)⟩

structure Spot (b : Nat) where
 at_ : Nat
 lt : at_ < b
def spots {b : Nat} (l : List (Spot b)) : List Nat := l.map Spot.at_
theorem spots_snoc {b : Nat} (l : List (Spot b)) (x : Spot b) : spots (l ++ [x]) = spots l ++ [x.at_] := by unfold spots; simp
theorem spots_len {b : Nat} (l : List (Spot b)) : (spots l).length = l.length := by unfold spots; simp

theorem six_pre (h b : Nat) {j n : Nat} (hj : j ≤ n) : six h b j <+: six h b n := by
 rw [List.prefix_iff_eq_take, six_len]
 unfold six
 rw [← List.map_take, List.take_range, Nat.min_eq_left hj]
set_option maxRecDepth 100000 in
set_option maxHeartbeats 1000000 in
theorem places_in (n l Bk Bb : Nat) (s : ByteArray) (b : Nat) (h1 : 1 ≤ b) (h2 : b ≤ 100000) (hs : s.size ≤ maxLen) (J Jx : List (Spot b) → World → Prop)
   (hY : ∀ pre (x : Spot b) W, J pre W → pre.length < 6 → YieldAt Fence.wide (n - 1) Try.prog l #[.int .i64 x.at_] W fun e W' =>
     (e = .returned (.bool true) ∧ J (pre ++ [x]) W' ∧ KeptTwo Bk Bb W W') ∨ (e = .returned (.bool false) ∧ Jx (pre ++ [x]) W'))
   (W : World) (hk : Boxed W Bk 9 (.string s)) (hb : Boxed W Bb 3 (.int .i64 b)) (h0 : J [] W) :
   CallsIn Fence.wide n Try.prog 68 #[.func (.yield l) #[] #[], .pointer (some ⟨Bb, 0, none⟩), .pointer (some ⟨Bk, 0, none⟩)] W fun e W' => (∃ v, e = .returned v) ∧
     ((∃ ys, spots ys = six (hash s.data.toList) b 6 ∧ J ys W') ∨ (∃ pre, spots pre <+: six (hash s.data.toList) b 6 ∧ Jx pre W')) := by
 have hh := hash_lt s.data.toList
 obtain ⟨H, hH⟩ : ∃ H, hash s.data.toList = H := ⟨_, rfl⟩
 have HH := Lib.hid hH
 rw [hH] at hh ⊢
 clear hH
 have hd := dlt_lt hh
 obtain ⟨D, hD⟩ : ∃ D, dlt H = D := ⟨_, rfl⟩
 have HDD := Lib.hid hD
 rw [hD] at hd
 clear hD
 have HS0 := Lib.hid (stand_zero hh)
 have HD := Lib.hid (show bits .or .u32 ((H : Int) * 32768 % 4294967296) ((H : Int) / 131072) = (D : Int) by
   have h1 := u32_or_nat (H * 32768 % 4294967296) (H / 131072) (by omega) (by omega)
   rw [show ((H / 131072 : Nat) : Int) = (H : Int) / 131072 by omega, show ((H * 32768 % 4294967296 : Nat) : Int) = (H : Int) * 32768 % 4294967296 by omega] at h1
   rw [h1, ← HDD.out, Nat.or_comm]
   rfl)
 have ck := hk.cell
 have cb := hb.cell
 have HY := Lib.hid hY
 have H0 := Lib.hid h0
 have BB := Lib.hid (And.intro hk hb)
 clear hY h0 hk hb
 refine callsIn_of_wp Try.func68 rfl trivial ?_ rfl
 simp only [Try.ntmps68, List.size_toArray, List.length_cons, List.length_nil, Nat.reduceAdd, Nat.reduceSub, Array.replicate_succ, Array.replicate_zero, List.push_toArray, List.append_toArray, List.nil_append, List.cons_append]
 gi_wp2_with fail
 refine ⟨trivial, (fun h => by cases h), ?_⟩
 refine (callsIn_wide.2 (bitsOk_at (b : Int) _)).mono ?_
 rintro e w1 ⟨rfl, rfl⟩
 rw [show decide (1 ≤ (b : Int) ∧ (b : Int) ≤ 100000) = true from decide_eq_true (by omega)]
 gi_wp2_with fail
 refine ⟨trivial, (fun h => by cases h), ?_⟩
 refine (callsIn_wide.2 (implHashOf s _ hs)).mono ?_
 rw [HH.out]
 rintro e w1 ⟨rfl, rfl⟩
 gi_wp2_with fail
 rw [HD.out]
 gi_loopw [4, 16] (fun hx ii wr => ∃ (j : Nat) (pre : List (Spot b)), j ≤ 6 ∧ ii = .int .i64 j ∧ hx = .int .u32 (stand H j : Nat) ∧ Boxed wr Bk 9 (.string s) ∧ Boxed wr Bb 3 (.int .i64 b) ∧ J pre wr ∧ spots pre = six H b j)
   (fun _ ii _ => 6 - (intOf ii).toNat)
 case atStart => exact ⟨0, [], by omega, rfl, by rw [HS0.out], BB.out.1, BB.out.2, H0.out, rfl⟩
 case round =>
   obtain ⟨j, pre, hj, rfl, rfl, bk, bb, hJ, hsp⟩ := hrel
   clear ck cb
   have ck := bk.cell
   have cb := bb.cell
   have BW := Lib.hid (And.intro bk bb)
   have HJ := Lib.hid hJ
   have HSP := Lib.hid hsp
   clear bk bb hJ hsp
   have hst := stand_lt H j
   have HN := Lib.hid (stand_next H j)
   have HSN := Lib.hid (six_snoc H b j)
   obtain ⟨X, hX⟩ : ∃ X, stand H j = X := ⟨_, rfl⟩
   rw [hX] at hst HN HSN ⊢
   clear hX
   by_cases hlt : j < 6
   · have j1 : (j : Int) < 6 := by omega
     have hne : ¬ b = 0 := by omega
     have hpl : X % b < b := Nat.mod_lt _ (by omega)
     obtain ⟨p, hp⟩ : ∃ p, X % b = p := ⟨_, rfl⟩
     rw [hp] at hpl
     have HP := Lib.hid hp
     have hki : (X : Int).tmod (b : Int) = (p : Int) := by rw [← hp, Int.natCast_emod, Int.tmod_eq_emod_of_nonneg (by omega)]
     have hkw : IntKind.i64.wrap (p : Int) = (p : Int) := IntWalk.i64_in _ (by omega)
     have HS2 := Lib.hid (show spots (pre ++ [(⟨p, hpl⟩ : Spot b)]) = six H b (j + 1) by rw [spots_snoc, HSP.out, HSN.out, HP.out])
     obtain ⟨fn, tmps, assign, body, hy, hR⟩ := HY.out pre ⟨p, hpl⟩ wr HJ.out (by rw [← spots_len, HSP.out, six_len]; exact hlt)
     clear hp
     gi_wp2_with fail
     refine ⟨(fun h => by cases h), hR.mono ?_⟩
     rintro e W3 (⟨rfl, hJ3, hk3⟩ | ⟨rfl, hJx3⟩)
     · have bk3 : Boxed W3 Bk 9 (.string s) := hk3.1.trans BW.out.1
       have bb3 : Boxed W3 Bb 3 (.int .i64 b) := hk3.2.trans BW.out.2
       have HJ3 := Lib.hid hJ3
       clear hJ3 hk3 hy hR
       gi_wp2
       go_roundw
       case rel => exact ⟨j + 1, _, by omega, by go_num, congrArg (Value.int IntKind.u32) (by rw [HN.out, HDD.out]; omega), bk3, bb3, HJ3.out, HS2.out⟩
       case measure => simp [intOf]; omega
     · have HX := Lib.hid hJx3
       clear hJx3 hy hR
       gi_wp2
       refine bodyPost_ret (results_none rfl _ _ _) rfl ?_
       exact ⟨⟨_, rfl⟩, .inr ⟨_, by rw [HS2.out]; exact six_pre H b (by omega), HX.out⟩⟩
   · gi_wp2
     go_end0
     obtain rfl : j = 6 := by omega
     exact ⟨⟨_, rfl⟩, .inl ⟨pre, HSP.out, HJ.out⟩⟩

theorem places_no (n l Bk Bb : Nat) (s : ByteArray) (b : Int) (hbad : b < 1 ∨ 100000 < b) (W : World) (hb : Boxed W Bb 3 (.int .i64 b)) :
   CallsIn Fence.wide n Try.prog 68 #[.func (.yield l) #[] #[], .pointer (some ⟨Bb, 0, none⟩), .pointer (some ⟨Bk, 0, none⟩)] W fun e W' => (∃ v, e = .returned v) ∧ W' = W := by
 have cb := hb.cell
 have hd : decide (1 ≤ b ∧ b ≤ 100000) = false := decide_eq_false (by omega)
 clear hb hbad
 refine callsIn_of_wp Try.func68 rfl trivial ?_ rfl
 simp only [Try.ntmps68, List.size_toArray, List.length_cons, List.length_nil, Nat.reduceAdd, Nat.reduceSub, Array.replicate_succ, Array.replicate_zero, List.push_toArray, List.append_toArray, List.nil_append, List.cons_append]
 gi_wp2_with fail
 refine ⟨trivial, (fun h => by cases h), ?_⟩
 refine (callsIn_wide.2 (bitsOk_at b _)).mono ?_
 rintro e w1 ⟨rfl, rfl⟩
 rw [hd]
 gi_wp2
 refine bodyPost_ret (results_none rfl _ _ _) rfl ?_
 exact ⟨⟨_, rfl⟩, rfl⟩
theorem places_stops (n Bk Bb : Nat) (s : ByteArray) (b : Int) (m : Nat) (hm : b.toNat = m) (hs : s.size ≤ maxLen) (w : World) (hk : Boxed w Bk 9 (.string s)) (hb : Boxed w Bb 3 (.int .i64 b)) :
   SeqStopsK Fence.wide n Try.prog 68 #[.pointer (some ⟨Bb, 0, none⟩), .pointer (some ⟨Bk, 0, none⟩)] (fun x : Spot m => #[Value.int .i64 x.at_]) (KeptTwo Bk Bb)
     (fun ys => spots ys = probes s.data.toList b) (fun pre => spots pre <+: probes s.data.toList b) 6 w := fun l J Jx W hW hJ _ hY h0 => by
 have hk' : Boxed W Bk 9 (.string s) := (hW.block Bk hk.lt).trans hk
 have hb' : Boxed W Bb 3 (.int .i64 b) := (hW.block Bb hb.lt).trans hb
 by_cases h : 1 ≤ b ∧ b ≤ 100000
 · obtain ⟨k, rfl⟩ := Int.eq_ofNat_of_zero_le (show 0 ≤ b by omega)
   rw [Int.toNat_natCast] at hm
   subst hm
   rw [probes_yes (by omega) (by omega)]
   exact places_in n l Bk Bb s k (by omega) (by omega) hs J Jx hY W hk' hb' h0
 · rw [probes_no (l := s.data.toList) (bits := b) (by omega)]
   refine (places_no n l Bk Bb s b (by omega) W hb').mono (fun e W' h => ?_)
   obtain ⟨h1, rfl⟩ := h
   exact ⟨h1, .inl ⟨[], rfl, h0⟩⟩

theorem round_calls {l n : Nat} {P : Program} {f : FuncId} {args : Array Value} {w : World} {R : Ending → World → Prop} (h : Calls P f args w R) : CallsIn (Fence.wide.inRound l) n P f args w R := (callsIn_wide.2 h : CallsIn Fence.wide n P f args w R)
end Go.Proofs.Ytkomnnijnggbpaa
/- The program's ConfigOk, and the name of a row and a column. -/
namespace Go.Proofs.Ytkomnnijnggbpaa
open Go.RowKit
set_option linter.unusedVariables false

set_option maxHeartbeats 1000000 in
theorem implConfigOk (e s : Int) (p : Bool) (w : World) :
   Calls Try.prog 18 #[.agg #[.int .i64 e, .int .i64 s, .bool p]] w fun r w' => r = .returned (.bool (confOk ⟨e, s, p⟩)) ∧ Below w.heap.size w w' := by
 have B0 := Lib.hid ((Below.refl w.heap.size w).alloc (Nat.le_refl _) (.cells #[.int .i64 e, .int .i64 s, .bool p] 28))
 unfold confOk
 by_cases h1 : 1 ≤ e
 · by_cases h2 : e ≤ 16
   · by_cases h3 : 1 ≤ s
     · go_enter Try.func18, Try.ntmps18
       go_wp2
       go_ret
       exact ⟨ret_bool (by simp [h1, h2, h3]), B0.out⟩
     · go_enter Try.func18, Try.ntmps18
       go_wp2
       go_ret
       exact ⟨ret_bool (by rw [show decide (1 ≤ s) = false from decide_eq_false (by omega)]; simp), B0.out⟩
   · go_enter Try.func18, Try.ntmps18
     go_wp2
     go_ret
     exact ⟨ret_bool (by rw [show decide (e ≤ 16) = false from decide_eq_false (by omega)]; simp), B0.out⟩
 · go_enter Try.func18, Try.ntmps18
   go_wp2
   go_ret
   exact ⟨ret_bool (by rw [show decide (1 ≤ e) = false from decide_eq_false (by omega)]; simp), B0.out⟩
theorem cfg_three {w : World} {g T : Nat} {a b c : Value} (h : w.heap[g]? = some (.cells #[a, b, c] T (0, 0))) : w.cell? ⟨g, 0, none⟩ = some a ∧ w.cell? ⟨g, 1, none⟩ = some b ∧ w.cell? ⟨g, 2, none⟩ = some c :=
 ⟨by simp [World.cell?, h], by simp [World.cell?, h], by simp [World.cell?, h]⟩
end Go.Proofs.Ytkomnnijnggbpaa
