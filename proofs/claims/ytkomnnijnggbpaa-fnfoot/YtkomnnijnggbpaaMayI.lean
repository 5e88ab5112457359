/- The program's MayHave: it goes on no farther than to the first place that has no bit. -/
import Derived.Test.YtkomnnijnggbpaaZ5
namespace Go.Proofs.Ytkomnnijnggbpaa
open Go.RowKit Go.Shelf
set_option linter.unusedVariables false
attribute [local go_sem] Oper.semAt_some

theorem res_box_bool {P : Program} {fn : Func} {p : Tmp} {ty : TypeId} {b : Bool} (h : fn.results = #[.cell p ty]) (tmps : Array Value) (w : World) (g : Nat)
   (hp : tmps.getD p undef = .pointer (some ⟨g, 0, none⟩)) (hv : (loadVar ty ⟨g, 0, none⟩).run P w = .ok (.bool b) w) : (results fn tmps).run P w = .ok (.bool b) w := by
 have hp' : tmps[p]?.getD undef = .pointer (some ⟨g, 0, none⟩) := by simpa using hp
 simp [results, h, hp', asAddr, hv]
theorem box_bool {w : World} {g : Nat} {b : Bool} (h : Boxed w g 4 (.bool b)) : (loadVar 4 ⟨g, 0, none⟩).run Try.prog w = .ok (.bool b) w := by
 have hc : w.cell? ⟨g, 0, none⟩ = some (.bool b) := h.cell
 simp [loadVar, go_sem, hc]

structure Mid (w : World) (f : ByteArray) (W : World) : Prop where
 below : Below w.heap.size w W
 box : Boxed W w.heap.size 9 (.string f)
 ans : Boxed W (w.heap.size + 1) 4 (.bool false)
 size : w.heap.size + 4 ≤ W.heap.size
theorem Mid.grown {w : World} {f : ByteArray} {b : Nat} {X Y : World} {row : Option Nat} (h : Mid w f X) (hb : w.heap.size + 4 ≤ b) (hg : X.grownBy Y row) (hr : ∀ r, row = some r → b ≤ r) : Mid w f Y :=
 ⟨h.below.grown hg h.below.size (fun r e => by have := hr r e; omega), h.box.kept hg (fun e => by have := hr _ e.symm; omega), h.ans.kept hg (fun e => by have := hr _ e.symm; omega), Nat.le_trans h.size hg.size⟩
def May (w : World) (f : ByteArray) {m : Nat} (pre : List (Spot m)) (W : World) : Prop := Mid w f W ∧ ∀ q ∈ spots pre, bitAt f.data.toList q = true
def MayNo (w : World) (f : ByteArray) {m : Nat} (c : Code) (pre : List (Spot m)) (W : World) : Prop := Mid w f W ∧ c = .ret ∧ ∃ q ∈ spots pre, bitAt f.data.toList q = false
theorem may_own (w : World) (f : ByteArray) (m : Nat) {b : Nat} (hb : w.heap.size + 4 ≤ b) : OwnFrom b (fun (xs : List (Spot m)) W => May w f xs W) := fun _ _ _ _ hs hg hr => ⟨hs.1.grown hb hg (fun r e => (hr r e).1), hs.2⟩
theorem mayNo_own (w : World) (f : ByteArray) (m : Nat) {b : Nat} (hb : w.heap.size + 4 ≤ b) (c : Code) : OwnFrom b (fun (xs : List (Spot m)) W => MayNo w f c xs W) := fun _ _ _ _ hs hg hr => ⟨hs.1.grown hb hg (fun r e => (hr r e).1), hs.2⟩
theorem Mid.drew {w : World} {f : ByteArray} {W : World} (h : Mid w f W) : Mid w f W.drew := ⟨h.below.drew, h.box, h.ans, h.size⟩

theorem Mid.set {w : World} {f : ByteArray} {W : World} (h : Mid w f W) : Mid w f (W.setCell ⟨w.heap.size + 1, 0, none⟩ (.bool false)) :=
 ⟨h.below.setCell (p := ⟨w.heap.size + 1, 0, none⟩) (Nat.le_succ _) _, h.box.other (Nat.ne_of_lt (Nat.lt_succ_self _)) _, h.ans.set _, by have := h.size; simpa using this⟩
theorem and_pow (x r : Nat) : x &&& 2 ^ r = if x.testBit r then 2 ^ r else 0 := by
 apply Nat.eq_of_testBit_eq
 intro i
 rw [Nat.testBit_and, Nat.testBit_two_pow]
 by_cases h : r = i
 · subst h
   cases x.testBit r <;> simp
 · cases x.testBit r <;> simp [h]
theorem may_bit (x r : Nat) (h : x < 256) (hr : r < 8) : (bits .and .u8 (x : Int) (2 ^ min r 8 % 256) == 0) = !(x.testBit r) := by
 have e : (2 : Int) ^ min r 8 % 256 = ((2 ^ r : Nat) : Int) := by
   rcases (show r = 0 ∨ r = 1 ∨ r = 2 ∨ r = 3 ∨ r = 4 ∨ r = 5 ∨ r = 6 ∨ r = 7 by omega) with h | h | h | h | h | h | h | h <;> subst h <;> rfl
 rw [e, u8_and_nat x (2 ^ r) h (Nat.pow_lt_pow_right (n := 8) (by omega) hr), and_pow]
 cases x.testBit r
 · rfl
 · have h2 : 2 ^ r ≠ 0 := Nat.ne_of_gt (Nat.two_pow_pos r)
   rw [if_pos rfl]
   exact beq_eq_false_iff_ne.2 (fun h3 => h2 (by exact_mod_cast h3))
set_option maxRecDepth 100000 in
set_option maxHeartbeats 2000000 in
theorem implMay_in (f s : ByteArray) (w : World) (hf0 : 1 ≤ f.size) (hf : f.size ≤ 12500) (hs : s.size ≤ maxLen) :
   CallsIn Fence.wide 5 Try.prog 15 #[.string f, .string s] w fun e w' => e = .returned (.bool (mayHave f.data.toList s.data.toList)) ∧ Below w.heap.size w w' := by
 have HSZ := Lib.hid hs
 have hfl : f.data.toList.length = f.size := by simp
 have HFL := Lib.hid hfl
 have HPB := Lib.hid (show probes s.data.toList ((8 : Int) * (f.size : Int)) = probes s.data.toList ((8 * f.data.toList.length : Nat) : Int) by rw [HFL.out]; congr 1)
 have HNE := Lib.hid (show probes s.data.toList ((8 * f.data.toList.length : Nat) : Int) ≠ [] by
   rw [HFL.out, probes_yes (by omega) (by omega)]
   intro h
   have := congrArg List.length h
   rw [six_len] at this
   exact absurd this (by decide))
 clear hs hfl
 refine callsIn_of_wp_marks Try.func15 rfl trivial ?_ rfl
 simp only [Try.ntmps15, List.size_toArray, List.length_cons, List.length_nil, Nat.reduceAdd, Nat.reduceSub, Array.replicate_succ, Array.replicate_zero, List.push_toArray, List.append_toArray, List.nil_append, List.cons_append]
 have bF := Boxed.new w 9 (.string f)
 have bA := Boxed.new (w.alloc (.cells #[.string f] 9)) 4 (.bool false)
 have bS := Boxed.new ((w.alloc (.cells #[.string f] 9)).alloc (.cells #[.bool false] 4)) 9 (.string s)
 have bB := Boxed.new (((w.alloc (.cells #[.string f] 9)).alloc (.cells #[.bool false] 4)).alloc (.cells #[.string s] 9)) 3 (.int .i64 (8 * (f.size : Int)))
 simp only [World.size_alloc] at bF bA bS bB
 have hB0 : Below w.heap.size w ((((w.alloc (.cells #[.string f] 9)).alloc (.cells #[.bool false] 4)).alloc (.cells #[.string s] 9)).alloc (.cells #[.int .i64 (8 * (f.size : Int))] 3)) := ((((Below.refl _ w).alloc (Nat.le_refl _) _).alloc (by simp) _).alloc (by simp; omega) _).alloc (by simp; omega) _
 have M0 := Lib.hid (show Mid w f ((((w.alloc (.cells #[.string f] 9)).alloc (.cells #[.bool false] 4)).alloc (.cells #[.string s] 9)).alloc (.cells #[.int .i64 (8 * (f.size : Int))] 3)) from ⟨hB0, ((bF.alloc _).alloc _).alloc _, (bA.alloc _).alloc _, by simp⟩)
 have XX := Lib.hid (And.intro bS bB)
 have cF := ((bF.alloc (.cells #[.bool false] 4))).cell
 clear bF bA bS bB hB0
 gi_wp2_with fail
 refine ⟨trivial, ?_⟩
 refine (callsIn_wide.2 (bitsOk_at (8 * (f.size : Int)) _)).mono ?_
 rintro e w1 ⟨rfl, rfl⟩
 rw [show decide (1 ≤ (8 * (f.size : Int)) ∧ (8 * (f.size : Int)) ≤ 100000) = true from decide_eq_true (by omega)]
 clear cF
 gi_wp2_with fail
 refine ⟨trivial, ?_⟩
 refine (placesOf_at _ _ _ _).mono ?_
 rintro e w' ⟨rfl, rfl⟩
 gi_wp2_with fail
 obtain ⟨w4, hw4⟩ : ∃ W, ((((w.alloc (.cells #[.string f] 9)).alloc (.cells #[.bool false] 4)).alloc (.cells #[.string s] 9)).alloc (.cells #[.int .i64 (8 * (f.size : Int))] 3)) = W := ⟨_, rfl⟩
 have XX2 := Lib.hid (show Boxed w4 (w.heap.size + 1 + 1) 9 (.string s) ∧ Boxed w4 (w.heap.size + 1 + 1 + 1) 3 (.int .i64 (8 * (f.size : Int))) from ⟨by rw [← hw4]; exact XX.out.1.alloc _, by rw [← hw4]; exact XX.out.2⟩)
 rw [hw4] at M0 ⊢
 have hsz4 := M0.out.size
 clear hw4 XX
 refine wpIn_rangeFunc_ownG (α := Spot (8 * f.size)) rfl (by decide) (gf := 68) (lb := #[.pointer (some ⟨w.heap.size + 1 + 1 + 1, 0, none⟩), .pointer (some ⟨w.heap.size + 1 + 1, 0, none⟩)]) rfl trivial (enters_of Try.func68 (by kernel_rfl) rfl)
   (places_stops 4 (w.heap.size + 1 + 1) (w.heap.size + 1 + 1 + 1) s (8 * (f.size : Int)) _ (by omega) HSZ.out w4 XX2.out.1 XX2.out.2) KeptTwo.trans (keptTwo_put (by omega) (by omega)) (Below.refl _ _) (fun _ => rfl)
   (fun pre W => May w f pre W) (fun c pre W => MayNo w f c pre W) (may_own w f _ hsz4) (mayNo_own w f _ hsz4)
   ⟨M0.out, fun q hq => by cases hq⟩
   (fun x => { tmps := #[.string f, .string s, .pointer (some ⟨w.heap.size, 0, none⟩), undef, .pointer (some ⟨w.heap.size + 1, 0, none⟩), .int .i64 (8 * (f.size : Int)), .int .i64 x.at_, .string f, .int .i64 f.size, .int .i64 (8 * (f.size : Int)), .int .i64 (8 * (f.size : Int)), .bool true, .bool false, .string s, .int .i64 (8 * (f.size : Int)),
     .func (.func 68) #[] #[.pointer (some ⟨w.heap.size + 1 + 1 + 1, 0, none⟩), .pointer (some ⟨w.heap.size + 1 + 1, 0, none⟩)], .int .i64 x.at_, undef, undef, undef, undef, undef, undef, undef, undef], defers := [] }) ?assign ?body ?done ?stop
 case assign =>
   intro l x W K hK
   gi_wp2
   exact hK
 case body =>
   rintro l pre ⟨p, hpl⟩ W ⟨hm, hq0⟩ hlt
   have MM := Lib.hid hm
   have HQ := Lib.hid hq0
   have cF := hm.box.cell
   have cA := hm.ans.cell
   have fA := hm.ans.frozen
   clear hm hq0 hlt
   obtain ⟨q, hq⟩ : ∃ q, p / 8 = q := ⟨_, rfl⟩
   obtain ⟨r, hr⟩ : ∃ r, p % 8 = r := ⟨_, rfl⟩
   have hqf : q < f.size := by omega
   have hr8 : r < 8 := by omega
   have e1 : (p : Int).tdiv 8 = (q : Int) := by rw [Int.tdiv_eq_ediv_of_nonneg (by omega)]; omega
   have e2 : (p : Int) / 8 = (q : Int) := by omega
   have e3 : (q : Int) < (f.size : Int) := by omega
   have e4 : IntKind.i64.wrap (q : Int) = (q : Int) := IntWalk.i64_in _ (by omega)
   have hbit := may_bit f[q].toNat r f[q].toNat_lt hr8
   obtain ⟨b, hb⟩ : ∃ b, f[q].toNat.testBit r = b := ⟨_, rfl⟩
   have HB := Lib.hid (show bitAt f.data.toList p = b by rw [bit_at f p q r hqf hq hr]; exact hb)
   rw [hb] at hbit
   have HS := Lib.hid (spots_snoc pre (⟨p, hpl⟩ : Spot (8 * f.size)))
   clear hb
   gi_wp2_with fail
   have hmix : Try.prog.follows .mixedOrders = true := by kernel_rfl
   refine wpIn_mono (Q := fun e a W' => e = .normal ∧ a = { tmps := #[.string f, .string s, .pointer (some ⟨w.heap.size, 0, none⟩), undef, .pointer (some ⟨w.heap.size + 1, 0, none⟩), .int .i64 (8 * (f.size : Int)), .int .i64 p, .string f, .int .i64 f.size, .int .i64 (8 * (f.size : Int)), .int .i64 (8 * (f.size : Int)), .bool true, .bool false, .string s, .int .i64 (8 * (f.size : Int)),
     .func (.func 68) #[] #[.pointer (some ⟨w.heap.size + 1 + 1 + 1, 0, none⟩), .pointer (some ⟨w.heap.size + 1 + 1, 0, none⟩)], .int .i64 p, .string f, .int .i64 p, .int .i64 q, .int .u8 f[q].toNat, .int .i64 p, .int .u8 (2 ^ min r 8 % 256), .int .u8 (bits .and .u8 f[q].toNat (2 ^ min r 8 % 256)), .bool (!b)], defers := [] } ∧ W' = W.drew) ?_ ?_
   · gi_region_with_o (refine ⟨trivial, (round_calls (implBitAt p r hr (by omega) _)).mono ?_⟩; rintro e' w' ⟨rfl, rfl⟩)
     all_goals exact ⟨rfl, rfl, rfl⟩
   · rintro e a W' ⟨rfl, rfl, rfl⟩
     have MD := Lib.hid MM.out.drew
     have cA := MD.out.ans.cell
     have fA := MD.out.ans.frozen
     cases b
     · gi_wp2
       refine ⟨(((KeepsOthers.setCell _ _ _).trans (KeepsOthers.drew _))).from _, MM.out.set.drew, rfl, p, ?_, HB.out⟩
       rw [HS.out]
       simp
     · gi_wp2
       refine ⟨(KeepsOthers.drew _).from _, ⟨rfl, rfl⟩, MD.out, fun q hq => ?_⟩
       rw [HS.out] at hq
       rcases List.mem_append.1 hq with h | h
       · exact HQ.out q h
       · rw [List.mem_singleton.1 h]
         exact HB.out
 case done =>
   rintro D ys W hD hys ⟨hm, hq⟩ hK
   have MM := Lib.hid hm
   have cA := hm.ans.cell
   have fA := hm.ans.frozen
   have HY := Lib.hid (show mayHave f.data.toList s.data.toList = true from may_yes HNE.out (fun j q hj => by
     rw [← HPB.out, ← hys] at hj
     exact hq q (List.mem_of_getElem? hj)))
   clear hm hq hys
   gi_wp2
   have hK2 : (W.setCell ⟨w.heap.size + 1, 0, none⟩ (.bool true)).heap[D]? = some (.deferred (some [])) := (Below.heap_setCell _ _ _ _ (show D ≠ w.heap.size + 1 by omega)).trans hK
   refine ⟨by simp, .inl ⟨_, _, rfl, run_takeDeferred hK2, ?_⟩⟩
   refine ⟨_, res_box_bool rfl _ _ (w.heap.size + 1) rfl (box_bool (b := true) ((World.putObj_heap_other (by omega)).trans (MM.out.ans.set (.bool true)))), ?_⟩
   rw [HY.out]
   exact ⟨rfl, (MM.out.below.setCell (p := ⟨w.heap.size + 1, 0, none⟩) (Nat.le_succ _) _).trans (belowK_b (w := w) (Nat.le_refl _) _ D _ _ (by omega) hK2 rfl rfl)⟩
 case stop =>
   rintro D c pre W hD hpre ⟨hm, rfl, q, hq1, hq2⟩ hK
   have MM := Lib.hid hm
   have HY := Lib.hid (show mayHave f.data.toList s.data.toList = false from may_no (by rw [← HPB.out]; exact hpre.subset hq1) hq2)
   clear hm hq1 hq2 hpre
   gi_wp2
   refine ⟨by simp, .inl ⟨_, _, rfl, run_takeDeferred hK, ?_⟩⟩
   refine ⟨_, res_box_bool rfl _ _ (w.heap.size + 1) rfl (box_bool (b := false) ((World.putObj_heap_other (by omega)).trans MM.out.ans)), ?_⟩
   rw [HY.out]
   exact ⟨rfl, MM.out.below.trans (belowK_b (w := w) (Nat.le_refl _) W D _ _ (by omega) hK rfl rfl)⟩
theorem implMay_no (f s : ByteArray) (w : World) (hf0 : f.size = 0 ∨ 12500 < f.size) (hf : f.size ≤ 1048576) :
   Calls Try.prog 15 #[.string f, .string s] w fun e w' => e = .returned (.bool (mayHave f.data.toList s.data.toList)) ∧ Below w.heap.size w w' := by
 have hfl : f.data.toList.length = f.size := by simp
 have HM := Lib.hid (show mayHave f.data.toList s.data.toList = false from may_none (by rw [hfl]; exact probes_no (by omega)))
 have bF := Boxed.new w 9 (.string f)
 have bA := Boxed.new (w.alloc (.cells #[.string f] 9)) 4 (.bool false)
 simp only [World.size_alloc] at bF bA
 have BA := Lib.hid bA
 have cF := ((bF.alloc (.cells #[.bool false] 4))).cell
 have cA := bA.cell
 have fA := bA.frozen
 have hB0 : Below w.heap.size w ((w.alloc (.cells #[.string f] 9)).alloc (.cells #[.bool false] 4)) := ((Below.refl _ w).alloc (Nat.le_refl _) _).alloc (by simp) _
 have HB := Lib.hid hB0
 have hd : decide (1 ≤ (8 * (f.size : Int)) ∧ (8 * (f.size : Int)) ≤ 100000) = false := decide_eq_false (by omega)
 clear hfl bF bA hB0 hf0
 go_enter Try.func15, Try.ntmps15
 go_wp2_with fail
 refine (bitsOk_at (8 * (f.size : Int)) _).mono ?_
 rintro e w1 ⟨rfl, rfl⟩
 rw [hd]
 go_wp2_with fail
 refine bodyPost_ret (res_box_bool rfl _ _ (w.heap.size + 1) rfl (box_bool (b := false) BA.out)) rfl ?_
 rw [HM.out]
 exact ⟨rfl, HB.out⟩
theorem implMayHave (f s : ByteArray) (w : World) (hf : f.size ≤ 1048576) (hs : s.size ≤ maxLen) :
   Calls Try.prog 15 #[.string f, .string s] w fun e w' => e = .returned (.bool (mayHave f.data.toList s.data.toList)) ∧ Below w.heap.size w w' := by
 by_cases h : 1 ≤ f.size ∧ f.size ≤ 12500
 · exact callsIn_wide.1 (implMay_in f s w h.1 h.2 hs)
 · exact implMay_no f s w (by omega) hf
end Go.Proofs.Ytkomnnijnggbpaa
