/- The model's draws of keys and of two cells. -/
import Derived.Test.YtejoiaijlaaekaaDrawOdd
import Derived.Test.YtejoiaijlaaekaaBent
import Derived.Test.YtejoiaijlaaekaaKeyOf
import Derived.Test.YtejoiaijlaaekaaTake
import Derived.BigQuiet
import Derived.Deep.RegionHeld3
namespace Go.Proofs.Ytejoiaijlaaekaa
open Go.RowKit
set_option linter.unusedVariables false

/-- Two short texts and a time. -/
def KeyDrawn (w : World) (e : Ending) (w' : World) : Prop := ∃ (R C : ByteArray) (t : Int), R.size ≤ 40 ∧ C.size ≤ 40 ∧ -1 ≤ t ∧ t ≤ 1000000001 ∧ e = .returned (.tuple #[.string R, .string C, .int .i64 t]) ∧ Below w.heap.size w w'

set_option maxHeartbeats 1000000 in
set_option maxRecDepth 100000 in
theorem drawKeyOf_at (a : Option Addr) (len cap : Nat) (zs : List Int) (w : World) (hr : Bytes w w.heap.size a len zs) :
    Calls Try.prog 14 #[.slice a len cap] w (KeyDrawn w) := by
  have HR := Lib.hid hr
  clear hr
  go_enter Try.func14, Try.ntmps14
  go_wp2_with fail
  refine (l01New_at a len cap zs _ HR.out).mono ?_
  rintro e w1 ⟨rfl, ⟨h, c1⟩, g0⟩
  have C1 := Lib.hid c1
  clear c1
  go_wp2_with fail
  refine (l04Odd_at _ _ _ _ _ _ _ _ _ C1.out).mono ?_
  rintro e w2 ⟨⟨R, C, t, G, V⟩, i2, h2, ⟨hR, hC, hV, ht0, ht1⟩, rfl, c2, g1⟩
  have B2 := Lib.hid ((below_new g0 g1).alloc (by have := (below_new g0 g1).size; omega) (.cells #[.string R, .string C, .int .i64 t, .bool G, .string V] 30))
  have X2 := (one5_new w2 (.string R) (.string C) (.int .i64 t) (.bool G) (.string V) 30)
  unfold One5 at X2
  obtain ⟨x0, x1, x2, x3, x4⟩ := X2
  clear c2 g0 g1
  go_wp2_with fail
  go_quiet (fail)
  go_wp2_with fail
  exact bodyPost_ret (results_tmp3 rfl _ _ _) rfl ⟨R, C, t, hR, hC, ht0, ht1, rfl, B2.out.trans (below_draws _)⟩

set_option maxHeartbeats 1000000 in
set_option maxRecDepth 100000 in
theorem drawReadKey_at (a : Option Addr) (len cap : Nat) (zs : List Int) (w : World) (hr : Bytes w w.heap.size a len zs) :
    Calls Try.prog 16 #[.slice a len cap] w (TextOf w) := by
  have HR := Lib.hid hr
  clear hr
  go_enter Try.func16, Try.ntmps16
  go_wp2_with fail
  refine (l01New_at a len cap zs _ HR.out).mono ?_
  rintro e w1 ⟨rfl, ⟨h, c1⟩, g0⟩
  have C1 := Lib.hid c1
  clear c1
  go_wp2_with fail
  refine (l04Make_at _ _ _ _ _ _ _ _ _ C1.out).mono ?_
  rintro e w2 ⟨⟨R, C, t, G, V⟩, i2, h2, ⟨hR, hC, hV, ht0, ht1⟩, rfl, c2, g1⟩
  have B2 := Lib.hid ((below_new g0 g1).alloc (by have := (below_new g0 g1).size; omega) (.cells #[.string R, .string C, .int .i64 t, .bool G, .string V] 30))
  have C2 := Lib.hid (c2.new (.cells #[.string R, .string C, .int .i64 t, .bool G, .string V] 30))
  have hR' : R.size ≤ maxLen := Nat.le_trans hR (by unfold maxLen; omega)
  have hC' : C.size ≤ maxLen := Nat.le_trans hC (by unfold maxLen; omega)
  clear c2 g0 g1
  go_wp2_with fail
  refine (specKeyOf R C t hR' hC' _).mono ?_
  intro e w3 h3
  obtain ⟨K, hK, hKz, rfl, hb3⟩ := h3.text
  have hKs : K.size ≤ 100 := by
    rw [hKz]
    unfold keyOf
    split
    · rw [key_len]; simp only [Array.length_toList, ByteArray.size_data]; omega
    · simp
  have C3 := Lib.hid (C2.out.below hb3)
  have B3 := Lib.hid (B2.out.trans (hb3.mono B2.out.size))
  have L3 := Lib.hid (show w.heap.size ≤ w3.heap.size from B3.out.size)
  clear h3 hK hKz hb3
  go_wp2_with fail
  refine (l01Bent_at _ _ _ _ _ _ _ _ K _ C3.out (by omega)).mono ?_
  rintro e w4 ⟨s, i4, h4, hs, rfl, c4, g4⟩
  have B4 := Lib.hid (show Below w.heap.size w w4 from B3.out.grown g4 L3.out (fun k e => by cases e; exact Nat.le_refl _))
  clear c4 g4
  go_wp2_with fail
  go_ret
  exact ⟨s, by omega, rfl, B4.out⟩

/-- Two cells. -/
def TwoCels (w : World) (e : Ending) (w' : World) : Prop := ∃ (R C : ByteArray) (t : Int) (G : Bool) (V R' C' : ByteArray) (t' : Int) (G' : Bool) (V' : ByteArray), SmallC ⟨R, C, t, G, V⟩ ∧ SmallC ⟨R', C', t', G', V'⟩ ∧
  e = .returned (.tuple #[.agg #[.string R, .string C, .int .i64 t, .bool G, .string V], .agg #[.string R', .string C', .int .i64 t', .bool G', .string V']]) ∧ Below w.heap.size w w'
theorem res_two5 {P : Program} {fn : Func} {p q : Tmp} {ty : TypeId} (h : fn.results = #[.cell p ty, .cell q ty]) (tmps : Array Value) (w : World) (g g2 : Nat) (t t2 : TypeId) (cs cs2 : Array Value) (fr fr2 : Nat × Nat) (d : TypeDesc)
    (hp : tmps.getD p undef = .pointer (some ⟨g, 0, none⟩)) (hq : tmps.getD q undef = .pointer (some ⟨g2, 0, none⟩)) (hg : w.heap[g]? = some (.cells cs t fr)) (hg2 : w.heap[g2]? = some (.cells cs2 t2 fr2))
    (hu : P.underlying ty = some d) (hd : (match d with | .struct _ | .array _ _ => true | _ => false) = true) (hi : (P.info? ty).map (·.size) = some cs.size) (hi2 : (P.info? ty).map (·.size) = some cs2.size) :
    (results fn tmps).run P w = .ok (.tuple #[.agg cs, .agg cs2]) w := by
  have hp' : tmps[p]?.getD undef = .pointer (some ⟨g, 0, none⟩) := by simpa using hp
  have hq' : tmps[q]?.getD undef = .pointer (some ⟨g2, 0, none⟩) := by simpa using hq
  simp [results, h, hp', hq', asAddr, run_loadVar_row w g t ty cs fr d hg hu hd hi, run_loadVar_row w g2 t2 ty cs2 fr2 d hg2 hu hd hi2]
theorem One5.same {A : Nat} {a0 a1 a2 a3 a4 : Value} {w w' : World} (h : One5 A a0 a1 a2 a3 a4 w) (e : w'.heap[A]? = w.heap[A]?) : One5 A a0 a1 a2 a3 a4 w' := by
  obtain ⟨h0, h1, h2, h3, h4⟩ := h
  exact ⟨(World.cell?_of_block (w := w) e).trans h0, (World.cell?_of_block (w := w) e).trans h1, (World.cell?_of_block (w := w) e).trans h2, (World.cell?_of_block (w := w) e).trans h3, (World.cell?_of_block (w := w) e).trans h4⟩
theorem set5_other {w : World} {g A : Nat} (hne : A ≠ g) (v0 v1 v2 v3 v4 : Value) : (((((w.setCell ⟨g, 0, none⟩ v0).setCell ⟨g, 1, none⟩ v1).setCell ⟨g, 2, none⟩ v2).setCell ⟨g, 3, none⟩ v3).setCell ⟨g, 4, none⟩ v4).heap[A]? = w.heap[A]? := by
  rw [Below.heap_setCell _ _ _ _ hne, Below.heap_setCell _ _ _ _ hne, Below.heap_setCell _ _ _ _ hne, Below.heap_setCell _ _ _ _ hne, Below.heap_setCell _ _ _ _ hne]
theorem one5_set5 {A g : Nat} {a0 a1 a2 a3 a4 : Value} {w : World} (h : One5 A a0 a1 a2 a3 a4 w) (hne : A ≠ g) (v0 v1 v2 v3 v4 : Value) : One5 A a0 a1 a2 a3 a4 (((((w.setCell ⟨g, 0, none⟩ v0).setCell ⟨g, 1, none⟩ v1).setCell ⟨g, 2, none⟩ v2).setCell ⟨g, 3, none⟩ v3).setCell ⟨g, 4, none⟩ v4) :=
  h.same (set5_other hne v0 v1 v2 v3 v4)

set_option maxHeartbeats 2000000 in
set_option maxRecDepth 100000 in
theorem drawCellBefore_at (a : Option Addr) (len cap : Nat) (zs : List Int) (w : World) (hr : Bytes w w.heap.size a len zs) :
    Calls Try.prog 20 #[.slice a len cap] w (TwoCels w) := by
  have B0 := Lib.hid (two_below0 w (.cells #[.string ⟨#[]⟩, .string ⟨#[]⟩, .int .i64 0, .bool false, .string ⟨#[]⟩] 30) (.cells #[.string ⟨#[]⟩, .string ⟨#[]⟩, .int .i64 0, .bool false, .string ⟨#[]⟩] 30))
  have HR := Lib.hid (below_bytes hr B0.out)
  have O0 := Lib.hid ((alloc_old (w.alloc (.cells #[.string ⟨#[]⟩, .string ⟨#[]⟩, .int .i64 0, .bool false, .string ⟨#[]⟩] 30)) (.cells #[.string ⟨#[]⟩, .string ⟨#[]⟩, .int .i64 0, .bool false, .string ⟨#[]⟩] 30) (i := w.heap.size) (by simp)).trans (alloc_at w (.cells #[.string ⟨#[]⟩, .string ⟨#[]⟩, .int .i64 0, .bool false, .string ⟨#[]⟩] 30)))
  have P0 := Lib.hid (alloc_at2 w (.cells #[.string ⟨#[]⟩, .string ⟨#[]⟩, .int .i64 0, .bool false, .string ⟨#[]⟩] 30) (.cells #[.string ⟨#[]⟩, .string ⟨#[]⟩, .int .i64 0, .bool false, .string ⟨#[]⟩] 30))
  clear hr
  go_enter Try.func20, Try.ntmps20
  go_wp2_with fail
  obtain ⟨w0, hw0⟩ : ∃ W, (w.alloc (.cells #[.string ⟨#[]⟩, .string ⟨#[]⟩, .int .i64 0, .bool false, .string ⟨#[]⟩] 30)).alloc (.cells #[.string ⟨#[]⟩, .string ⟨#[]⟩, .int .i64 0, .bool false, .string ⟨#[]⟩] 30) = W := ⟨_, rfl⟩
  rw [hw0] at B0 HR O0 P0 ⊢
  have S0 := Lib.hid (show w.heap.size + 2 = w0.heap.size by rw [← hw0]; simp)
  clear hw0
  refine (l01New_at a len cap zs _ HR.out).mono ?_
  rintro e w1 ⟨rfl, ⟨h, c1⟩, g0⟩
  have C1 := Lib.hid c1
  clear c1
  go_wp2_with fail
  refine (l04Odd_at _ _ _ _ _ _ _ _ _ C1.out).mono ?_
  rintro e w2 ⟨⟨R, C, t, G, V⟩, i2, h2, hs1, rfl, c2, g1⟩
  have K2 := Lib.hid ((below_new g0 g1).trans ((one_below w2 (.cells #[.string R, .string C, .int .i64 t, .bool G, .string V] 30)).mono (below_new g0 g1).size))
  have C2 := Lib.hid (c2.new (.cells #[.string R, .string C, .int .i64 t, .bool G, .string V] 30))
  have E2 := Lib.hid (one5_new w2 (.string R) (.string C) (.int .i64 t) (.bool G) (.string V) 30)
  have L2 := Lib.hid (show w0.heap.size < w2.heap.size from c2.lt)
  have HS1 := Lib.hid hs1
  clear c2 g0 g1 hs1
  go_wp2_with fail
  obtain ⟨w3, hw3⟩ : ∃ W, w2.alloc (.cells #[.string R, .string C, .int .i64 t, .bool G, .string V] 30) = W := ⟨_, rfl⟩
  rw [hw3] at K2 C2 E2 ⊢
  clear hw3
  obtain ⟨A, hA⟩ : ∃ A, w2.heap.size = A := ⟨_, rfl⟩
  rw [hA] at E2 L2 ⊢
  clear hA
  refine wp_region_held_drew (S := fun w' => One5 A (.string R) (.string C) (.int .i64 t) (.bool G) (.string V) w') (by kernel_rfl) E2.out (fun hHeld => ?_)
  refine takeS_at (i := 0) (d := some 10) (v := ?_) rfl rfl (by kernel_rfl) (by kernel_rfl) (by kernel_rfl) (fun _ _ _ h => h) (by rfl) ?hy hHeld ?_
  case hy => (intro w' hS; unfold One5 at hS; obtain ⟨s0, s1, s2, s3, s4⟩ := hS; go_simp <;> with_reducible rfl)
  simp only [Act.put, List.setIfInBounds_toArray, List.set_cons_zero, List.set_cons_succ]
  refine takeS_at (i := 1) (d := some 11) (v := ?_) rfl rfl (by kernel_rfl) (by kernel_rfl) (by kernel_rfl) (fun _ _ _ h => h) (by rfl) ?hy hHeld ?_
  case hy => (intro w' hS; clear hS; go_simp <;> with_reducible rfl)
  simp only [Act.put, List.setIfInBounds_toArray, List.set_cons_zero, List.set_cons_succ]
  refine wpAnyH_ready (rs := [2]) (by kernel_rfl) (by simp) ?_
  refine AllReadyH.cons rfl (fun K hK => ?_) AllReadyH.nil
  go_simp
  refine (l04Odd_at _ _ _ _ _ _ _ _ _ (C2.out.drewN 1)).mono ?_
  rintro e w4 ⟨⟨R', C', t', G', V'⟩, i4, h4, hs2, rfl, c4, g4⟩
  have HS2 := Lib.hid hs2
  have hAne : A ≠ w0.heap.size := by have := L2.out; omega
  have b4 : ∀ k, k < w3.heap.size → k ≠ w0.heap.size → w4.heap[k]? = w3.heap[k]? := fun k hk hne => g4.block k hk (by simpa using hne)
  have E4 := Lib.hid (show One5 A (.string R) (.string C) (.int .i64 t) (.bool G) (.string V) w4 by
    have hlt := cell_lt E2.out.1
    obtain ⟨h0, h1, h2, h3, h4⟩ := E2.out
    have e := b4 A hlt hAne
    exact ⟨(World.cell?_of_block (w := w3) e).trans h0, (World.cell?_of_block (w := w3) e).trans h1, (World.cell?_of_block (w := w3) e).trans h2, (World.cell?_of_block (w := w3) e).trans h3, (World.cell?_of_block (w := w3) e).trans h4⟩)
  have O3 := Lib.hid ((K2.out.block _ (Array.getElem?_eq_some_iff.1 O0.out).1).trans O0.out)
  have P3 := Lib.hid ((K2.out.block _ (Array.getElem?_eq_some_iff.1 P0.out).1).trans P0.out)
  have O4 := Lib.hid ((b4 _ (Array.getElem?_eq_some_iff.1 O3.out).1 (by have := S0.out; omega)).trans O3.out)
  have P4 := Lib.hid ((b4 _ (Array.getElem?_eq_some_iff.1 P3.out).1 (by have := S0.out; omega)).trans P3.out)
  have B4 := Lib.hid (show Below w.heap.size w w4 from (B0.out.trans (K2.out.mono B0.out.size)).trans ((below_draws (B := w.heap.size) (w := w3) 1).grown g4 (Nat.le_trans B0.out.size K2.out.size) (fun k e => by cases e; have := S0.out; omega)))
  clear c4 g4 hs2 b4 hAne
  go_wp2_with fail
  refine hK.out _ _ E4.out (fun hHeld => ?_)
  clear hK K
  refine wpAnyH_ready (rs := [3]) (by kernel_rfl) (by simp) ?_
  refine AllReadyH.cons rfl (fun K hK => ?_) AllReadyH.nil
  obtain ⟨o5, z0, z1, z2, z3, z4⟩ := blk5 O4.out
  unfold One5 at o5
  obtain ⟨b0, b1, b2, b3, b4⟩ := o5
  go_simp
  clear b0 b1 b2 b3 b4 z0 z1 z2 z3 z4
  refine hK.out _ _ (one5_set5 E4.out (by have := L2.out; have := S0.out; omega) _ _ _ _ _) (fun hHeld => ?_)
  clear hK K
  refine wpAnyH_ready (rs := [4]) (by kernel_rfl) (by simp) ?_
  refine AllReadyH.cons rfl (fun K hK => ?_) AllReadyH.nil
  have P5 := Lib.hid ((set5_other (w := w4) (g := w.heap.size) (A := w.heap.size + 1) (by omega) (.string R) (.string C) (.int .i64 t) (.bool G) (.string V)).trans P4.out)
  have O5 := Lib.hid (set5 O4.out (.string R) (.string C) (.int .i64 t) (.bool G) (.string V))
  have B5 := Lib.hid (set5_below B4.out (Nat.le_refl _) (.string R) (.string C) (.int .i64 t) (.bool G) (.string V))
  have E5 := Lib.hid (one5_set5 E4.out (g := w.heap.size) (by have := L2.out; have := S0.out; omega) (.string R) (.string C) (.int .i64 t) (.bool G) (.string V))
  obtain ⟨w5, hw5⟩ : ∃ W, ((((w4.setCell ⟨w.heap.size, 0, none⟩ (.string R)).setCell ⟨w.heap.size, 1, none⟩ (.string C)).setCell ⟨w.heap.size, 2, none⟩ (.int .i64 t)).setCell ⟨w.heap.size, 3, none⟩ (.bool G)).setCell ⟨w.heap.size, 4, none⟩ (.string V) = W := ⟨_, rfl⟩
  rw [hw5] at P5 O5 B5 E5 ⊢
  clear hw5
  obtain ⟨o5, z0, z1, z2, z3, z4⟩ := blk5 P5.out
  unfold One5 at o5
  obtain ⟨b0, b1, b2, b3, b4⟩ := o5
  go_simp
  clear b0 b1 b2 b3 b4 z0 z1 z2 z3 z4
  refine hK.out _ _ (one5_set5 E5.out (by have := L2.out; have := S0.out; omega) _ _ _ _ _) (fun hHeld => ?_)
  clear hK K
  refine wpAnyH_done (by kernel_rfl) ?_ _
  go_wp2_with fail
  refine bodyPost_ret (v := .tuple #[.agg #[.string R, .string C, .int .i64 t, .bool G, .string V], .agg #[.string R', .string C', .int .i64 t', .bool G', .string V']]) (res_two5 Try.results20 _ _ w.heap.size (w.heap.size + 1) _ _ #[.string R, .string C, .int .i64 t, .bool G, .string V] #[.string R', .string C', .int .i64 t', .bool G', .string V'] _ _ _ rfl rfl ((set5_other (by omega) _ _ _ _ _).trans O5.out) (set5 P5.out _ _ _ _ _) Try.underlying30 rfl (by rw [sizeCel]; rfl) (by rw [sizeCel]; rfl)) rfl ?_
  exact ⟨R, C, t, G, V, R', C', t', G', V', HS1.out, HS2.out, rfl, set5_below B5.out (by omega) _ _ _ _ _⟩
end Go.Proofs.Ytejoiaijlaaekaa
