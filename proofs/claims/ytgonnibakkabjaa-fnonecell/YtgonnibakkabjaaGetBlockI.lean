/- The program's GetBlock. -/
import Derived.Test.YtgonnibakkabjaaGetHold
import Derived.Test.YtgonnibakkabjaaPutBlk
import Derived.Test.YtgonnibakkabjaaFixA
namespace Go.Proofs.Ytgonnibakkabjaa
open Go.RowKit Go.Shelf
set_option linter.unusedVariables false
attribute [local go_sem] Oper.semAt_some

/-- What GetBlock answers. -/
def GotOut (w : World) (s : List UInt8) (every : Int) (e : Ending) (w' : World) : Prop := ∃ v r ok, e = .returned (.tuple #[v, .bool ok]) ∧ Got s every r ok ∧ OwnC w.heap.size w' v r ∧ Below w.heap.size w w'
theorem res_two {P : Program} {fn : Func} {p q : Tmp} {ty ty2 : TypeId} {v v2 : Value} (h : fn.results = #[.cell p ty, .cell q ty2]) (tmps : Array Value) (w : World) (g g2 : Nat)
    (hp : tmps.getD p undef = .pointer (some ⟨g, 0, none⟩)) (hq : tmps.getD q undef = .pointer (some ⟨g2, 0, none⟩)) (hv : (loadVar ty ⟨g, 0, none⟩).run P w = .ok v w) (hv2 : (loadVar ty2 ⟨g2, 0, none⟩).run P w = .ok v2 w) :
    (results fn tmps).run P w = .ok (.tuple #[v, v2]) w := by
  have hp' : tmps[p]?.getD undef = .pointer (some ⟨g, 0, none⟩) := by simpa using hp
  have hq' : tmps[q]?.getD undef = .pointer (some ⟨g2, 0, none⟩) := by simpa using hq
  simp [results, h, hp', hq', asAddr, hv, hv2]
theorem load_list {w : World} {g : Nat} {a : Option Addr} {n c : Nat} {fr : Nat × Nat} (h : w.heap[g]? = some (.cells #[.slice a n c] 24 fr)) : (loadVar 24 ⟨g, 0, none⟩).run Try.prog w = .ok (.slice a n c) w := by
  have hc : w.cell? ⟨g, 0, none⟩ = some (.slice a n c) := by simp [World.cell?, h]
  simp [loadVar, go_sem, hc]
theorem own_slice {B : Nat} {W : World} {v : Value} {ys : List Cel} (h : OwnC B W v ys) : ∃ ad cap, v = .slice ad ys.length cap := by
  rcases h.2 with ⟨h0, hn⟩ | ⟨g, cap, cur, h1, _⟩
  · exact ⟨none, 0, by rw [h0, hn]⟩
  · exact ⟨_, _, h1⟩
theorem own_nil (B : Nat) (W : World) : OwnC B W (.slice none 0 0) [] := World.ownsRow_nil _ _ _ _
theorem cellsIn_at (n : Nat) (T : ByteArray) (w : World) :
    CallsIn Fence.wide n Try.prog 50 #[.string T] w fun e' w' => e' = .returned (.func (.func 77) #[] #[.pointer (some ⟨w.heap.size, 0, none⟩)]) ∧ w' = w.alloc (.cells #[.string T] 9) := by
  refine callsIn_wide.2 ?_
  go_enter Try.func50, Try.ntmps50
  go_wp2
  go_ret
  exact ⟨rfl, rfl⟩
/-- The blocks that GetBlock begins with. -/
theorem two_new (w : World) : ((w.alloc (.cells #[.slice none 0 0] 24)).alloc (.cells #[.bool false] 4)).heap[w.heap.size]? = some (.cells #[.slice none 0 0] 24 (0, 0)) ∧ ((w.alloc (.cells #[.slice none 0 0] 24)).alloc (.cells #[.bool false] 4)).heap[w.heap.size + 1]? = some (.cells #[.bool false] 4 (0, 0)) := by
  refine ⟨(alloc_old _ _ (by simp)).trans (alloc_at w _), ?_⟩
  have := alloc_at (w.alloc (.cells #[.slice none 0 0] 24)) (.cells #[.bool false] 4)
  simpa using this
theorem gb_new {w w1 : World} (hb : Below ((w.alloc (.cells #[.slice none 0 0] 24)).alloc (.cells #[.bool false] 4)).heap.size ((w.alloc (.cells #[.slice none 0 0] 24)).alloc (.cells #[.bool false] 4)) w1) (T : ByteArray) (r : Loop) :
    GB w w1.heap.size (w1.heap.size + 1 + 1 + 1) (w1.heap.size + 1 + 1) r [] ((((w1.alloc (.cells #[.slice none 0 0] 24)).alloc (.cells #[.string T] 9)).alloc (.deferred (some []))).alloc (.loop r)) := by
  obtain ⟨n4, n5⟩ := two_new w
  have hs := hb.size
  simp only [World.size_alloc] at hs
  have b1 : Below w.heap.size w w1 := (two_below0 w _ _).trans (hb.mono (by simp; omega))
  have k4 := (hb.block _ (Array.getElem?_eq_some_iff.1 n4).1).trans n4
  have k5 := (hb.block _ (Array.getElem?_eq_some_iff.1 n5).1).trans n5
  have b2 : Below w1.heap.size w1 ((((w1.alloc (.cells #[.slice none 0 0] 24)).alloc (.cells #[.string T] 9)).alloc (.deferred (some []))).alloc (.loop r)) := (two_below0 w1 _ _).trans ((two_below0 _ _ _).mono (by simp; omega))
  refine ⟨(b2.block _ (by omega)).trans k4, (b2.block _ (by omega)).trans k5, ⟨.slice none 0 0, ?_, own_nil _ _⟩, ⟨by omega, by omega, rfl⟩, b1.trans (b2.mono b1.size), ?_, ?_, by simp⟩
  · rw [alloc_old _ _ (by simp; omega), alloc_old _ _ (by simp; omega), alloc_old _ _ (by simp)]
    exact alloc_at w1 _
  · have := alloc_at (((w1.alloc (.cells #[.slice none 0 0] 24)).alloc (.cells #[.string T] 9)).alloc (.deferred (some []))) (.loop r)
    simpa using this
  · rw [alloc_old _ _ (by simp)]
    have := alloc_at ((w1.alloc (.cells #[.slice none 0 0] 24)).alloc (.cells #[.string T] 9)) (.deferred (some []))
    simpa using this

set_option maxRecDepth 100000 in
set_option maxHeartbeats 4000000 in
theorem implGetBlock_in (s : ByteArray) (every : Int) (hs : s.size ≤ 1048576) (q n : Nat) (hq : getFix s.data.toList ((s.data.toList.length : Int) - 2) 2 = (q : Int)) (hn : n + 2 * (q + 1) = s.size) (w : World) :
    CallsIn Fence.wide 5 Try.prog 16 #[.string s, .int .i64 every] w (GotOut w s.data.toList every) := by
  have hll : s.data.toList.length = s.size := by simp
  rw [hll] at hq
  have HQ := Lib.hid hq
  have HLL := Lib.hid hll
  clear hq hll
  refine callsIn_of_wp_marks Try.func16 rfl trivial ?_ rfl
  simp only [Try.ntmps16, List.size_toArray, List.length_cons, List.length_nil, Nat.reduceAdd, Nat.reduceSub, Array.replicate_succ, Array.replicate_zero, List.push_toArray, List.append_toArray, List.nil_append, List.cons_append]
  gi_wp2_with fail
  refine ⟨trivial, ?_⟩
  refine (callsIn_wide.2 (implGetFix s ((s.size : Int) - 2) 2 _ (by unfold maxLen; omega))).mono ?_
  rw [HQ.out]
  rintro e w1 ⟨rfl, hb1⟩
  have B1 := Lib.hid hb1
  clear hb1
  have a1 : ¬ (q : Int) < 0 := by omega
  have a2 : ¬ (n : Int) < 0 := by omega
  have a3 : (s.size : Int) - 2 * ((q : Int) + 1) = (n : Int) := by omega
  have a4 : (n : Int) ≤ (s.size : Int) := by omega
  obtain ⟨T, hT⟩ : ∃ T, s.extract 0 n = T := ⟨_, rfl⟩
  have HTS := Lib.hid (show T.size ≤ 1048576 by rw [← hT, ByteArray.size_extract]; omega)
  have HTL := Lib.hid (show T.data.toList = s.data.toList.take n by rw [← hT]; have := part_text s 0 n; rwa [Nat.zero_add, List.drop_zero] at this)
  gi_wp2_with fail
  refine ⟨trivial, ?_⟩
  clear hT
  refine (cellsIn_at _ T _).mono ?_
  rintro e w' ⟨rfl, rfl⟩
  gi_wp2_with fail
  refine range_at rfl (by decide) (gf := 77) (lb := #[.pointer (some ⟨w1.heap.size + 1, 0, none⟩)]) rfl trivial (enters_of Try.func77 (by kernel_rfl) rfl) ?_
  intro r hrf hrs hrp hrt hrps hra hrb
  simp only [World.size_alloc]
  have G0 := Lib.hid (gb_new B1.out T r)
  have hb3 := (two_new w).1
  refine (cells_in 4 (w1.heap.size + 1 + 1 + 1) (w1.heap.size + 1) T HTS.out (GB w w1.heap.size (w1.heap.size + 1 + 1 + 1) (w1.heap.size + 1 + 1) r) (fun pre W => Stp w (w1.heap.size + 1 + 1 + 1) (w1.heap.size + 1 + 1) { r with state := .done, pending := some .ret } W ∧ 50 < pre.length) ?round _ (gb_abides (by have := B1.out.size; simp at this ⊢; omega)) ?text G0.out).mono ?done
  case text =>
    refine (blk1 (T := 9) ?_).1
    rw [alloc_old _ _ (by simp), alloc_old _ _ (by simp)]
    have := alloc_at (w1.alloc (.cells #[.slice none 0 0] 24)) (.cells #[.string T] 9)
    simpa using this
  case round =>
    rintro pre ⟨R, C, t, G, V⟩ W gb hlen
    refine yield_of (r := r) hrps hra hrb hrt gb.loop hrs rfl hrf ?_
    have HRR := Lib.hid (And.intro hrs hrp)
    clear hrps hra hrb hrt hrs hrp
    unfold celVal
    have GW := Lib.hid gb
    clear gb
    gi_wp2
    have G1 := Lib.hid (GW.out.under (one_below W (.cells #[.string R, .string C, .int .i64 t, .bool G, .string V] 38)))
    refine ⟨G1.out.loop, ?_⟩
    have G2 := Lib.hid (G1.out.turn { r with state := .busy })
    have A2 := Lib.hid (show ((W.alloc (.cells #[.string R, .string C, .int .i64 t, .bool G, .string V] 38)).putObj (w1.heap.size + 1 + 1 + 1) (.loop { r with state := .busy })).heap[W.heap.size]? = some (.cells #[.string R, .string C, .int .i64 t, .bool G, .string V] 38 (0, 0)) from (World.putObj_heap_other (by have := (Array.getElem?_eq_some_iff.1 GW.out.loop).1; omega)).trans (alloc_at W _))
    have KT2 := Lib.hid ((keepT_below (one_below W (.cells #[.string R, .string C, .int .i64 t, .bool G, .string V] 38))).trans (keepT_turn G1.out.loop { r with state := .busy }))
    obtain ⟨W2, hW2⟩ : ∃ W2, (W.alloc (.cells #[.string R, .string C, .int .i64 t, .bool G, .string V] 38)).putObj (w1.heap.size + 1 + 1 + 1) (.loop { r with state := .busy }) = W2 := ⟨_, rfl⟩
    rw [hW2] at G2 A2 KT2
    rw [hW2]
    obtain ⟨AA, hAA⟩ : ∃ A, W.heap.size = A := ⟨_, rfl⟩
    rw [hAA] at A2
    rw [hAA]
    clear hW2 hAA
    obtain ⟨v, hbx, hown⟩ := G2.out.box
    obtain ⟨ad, cap, rfl⟩ := own_slice hown
    obtain ⟨b0, b1⟩ := blk1 hbx
    obtain ⟨x5, _⟩ := blk5 A2.out
    unfold One5 at x5
    obtain ⟨c0, c1, c2, c3, c4⟩ := x5
    have HBX := Lib.hid hbx
    have HOW := Lib.hid hown
    have hfew := G2.out.few
    clear hbx hown
    by_cases h50 : pre.length = 50
    · have e50 : ((pre.length : Int) == 50) = true := by simp; omega
      obtain ⟨y0, y1⟩ := blk1 G2.out.r4
      obtain ⟨z0, z1⟩ := blk1 G2.out.r5
      have ST := Lib.hid (G2.out.stop { r with state := .done, pending := some .ret })
      gi_wp2
      exact And.intro ST.out.1 (And.intro ST.out.2 (by simp; omega))
    · have e50 : ((pre.length : Int) == 50) = false := beq_eq_false_iff_ne.2 (by omega)
      obtain ⟨ti, hti, hz0, hz1, hz2⟩ := info_parts infoCel
      have N5 := Lib.hid (new5 W2 R C t G V)
      have G3 := Lib.hid (G2.out.under (one_below W2 (.cells #[.string R, .string C, .int .i64 t, .bool G, .string V] 38)))
      have B3 := Lib.hid ((one_below W2 (.cells #[.string R, .string C, .int .i64 t, .bool G, .string V] 38)).block _ (Array.getElem?_eq_some_iff.1 HBX.out).1 |>.trans HBX.out)
      have O3 := Lib.hid (HOW.out.new (.cells #[.string R, .string C, .int .i64 t, .bool G, .string V] 38))
      have hpl : pre.length < 50 := by omega
      have hps : w1.heap.size + 1 ≤ W2.heap.size := by have := (Array.getElem?_eq_some_iff.1 HBX.out).1; omega
      gi_wp2_with (gi_at_builtin; refine wpListIn_append_own _ rfl _ _ 24 rfl (w1.heap.size + 1) 38 ti (.agg #[.string ⟨#[]⟩, .string ⟨#[]⟩, .int .i64 0, .bool false, .string ⟨#[]⟩]) 5 64 Try.underlying24 hti hz0 hz1 hz2 rfl (by decide) _ _ _ rfl O3.out ⟨W2.heap.size, 0, none⟩ 1 1 (celCells ⟨R, C, t, G, V⟩) rfl rfl N5.out (by intro u hu; simp only [celCells, List.mem_cons, List.not_mem_nil, or_false] at hu; rcases hu with rfl | rfl | rfl | rfl | rfl <;> rfl) (by unfold maxLen; omega) (by omega) (by simp; omega) ?_; intro v' w3 hown' hgrow _; have O4 := Lib.hid (show OwnC (w1.heap.size + 1) w3 v' (pre ++ [⟨R, C, t, G, V⟩]) by unfold OwnC; rw [List.length_append, List.flatMap_append]; simpa using hown'); have GR := Lib.hid hgrow; have B4 := Lib.hid ((hgrow.block _ (Array.getElem?_eq_some_iff.1 B3.out).1 (fun e => O3.out.apart B3.out (fun _ _ h => by cases h) e.symm)).trans B3.out); clear hown' hgrow; obtain ⟨ad4, cap4, rfl⟩ := own_slice O4.out; obtain ⟨m0, m1⟩ := blk1 B4.out)
      have G4 := Lib.hid (G3.out.put B3.out GR.out O3.out O4.out hpl)
      have hlen1 : (pre ++ [(⟨R, C, t, G, V⟩ : Cel)]).length = pre.length + 1 := by simp
      rw [hlen1] at G4
      have hr' : ({ r with state := .ready, pending := none } : Loop) = r := by
        obtain ⟨h1, h2⟩ := HRR.out
        cases r
        simp only at h1 h2
        rw [h1, h2]
      refine And.intro G4.out.loop (And.intro ?_ ((((KT2.out.trans (keepT_below (one_below W2 _))).trans (keepT_grow O3.out GR.out)).trans (keepT_set B4.out _)).trans (keepT_turn G4.out.loop _)))
      have h := G4.out.turn { r with state := .ready, pending := none }
      rw [hr'] at h ⊢
      exact h
  case done =>
    have hs0 : s.data.toList ≠ [] := by intro e; have := HLL.out; rw [e] at this; simp at this; omega
    have GOT : ∀ ys, ((∃ key a, Rd (s.data.toList.take n) ys key a ∧ 50 < ys.length) ∨ Ended (s.data.toList.take n) ys) → (putBlock ys every = s.data.toList → Got s.data.toList every ys true) ∧ (putBlock ys every ≠ s.data.toList → Got s.data.toList every [] false) := fun ys h => got_of (q := q) (n := n) (by rw [HLL.out]; exact HQ.out) (by rw [HLL.out]; exact hn) h
    have HGT := Lib.hid GOT
    clear GOT
    clear hrps hra hrb hrt hrs hrp
    rintro e W ⟨⟨v, rfl⟩, (⟨ys, hend, gb⟩ | ⟨pre, ⟨key, a, hrd⟩, st, h50⟩)⟩
    · refine ⟨⟨_, rfl⟩, .inl ⟨gb.loop, ?_⟩⟩
      have GW := Lib.hid (gb.turn { r with state := .exhausted })
      clear gb
      obtain ⟨W5, hW5⟩ : ∃ W5, W.putObj (w1.heap.size + 1 + 1 + 1) (.loop { r with state := .exhausted }) = W5 := ⟨_, rfl⟩
      rw [hW5] at GW
      rw [hW5]
      clear hW5
      rw [HTL.out] at hend
      have HEN := Lib.hid hend
      have HFT := Lib.hid (show Fit ys by obtain ⟨k, a', h1, _⟩ := hend; exact rd_fit h1 (by rw [List.length_take, HLL.out]; omega))
      clear hend
      obtain ⟨v, hbx, hown⟩ := GW.out.box
      obtain ⟨ad, cap, rfl⟩ := own_slice hown
      obtain ⟨b0, b1⟩ := blk1 hbx
      have hfew := GW.out.few
      have HOW := Lib.hid hown
      have HBX := Lib.hid hbx
      clear hown hbx
      obtain ⟨A, hA, _⟩ := text_of (putBlock ys every)
      have HAT := Lib.hid (as_text hA)
      have HA := Lib.hid hA
      clear hA
      gi_wp2_with fail
      refine ⟨trivial, ?_⟩
      refine (callsIn_wide.2 (implPutBlock ad ys.length cap ys every (by omega) HFT.out _ HOW.out.row)).mono ?_
      rintro e w6 ⟨rfl, hb6⟩
      rw [HAT.out]
      have G6 := Lib.hid (GW.out.under hb6)
      have O6 := Lib.hid (HOW.out.below hb6)
      have bx6 := (hb6.block _ (Array.getElem?_eq_some_iff.1 HBX.out).1).trans HBX.out
      obtain ⟨d0, d1⟩ := blk1 bx6
      obtain ⟨y0, y1⟩ := blk1 G6.out.r4
      obtain ⟨z0, z1⟩ := blk1 G6.out.r5
      clear hb6 bx6 b0 b1
      by_cases heq : putBlock ys every = s.data.toList
      · have hAs : A = s := bytes_ext (by rw [HA.out, heq])
        have hsame : (A.toList == s.toList) = true := by rw [hAs]; exact same_beq s
        clear hAs
        have HG := Lib.hid ((HGT.out ys (.inr HEN.out)).1 heq)
        gi_wp2
        have AN := Lib.hid (G6.out.answer (.slice ad ys.length cap) true rfl)
        refine ⟨by simp, .inl ⟨_, _, rfl, run_takeDeferred AN.out.1, ?_⟩⟩
        exact ⟨_, res_two Try.results16 _ _ w.heap.size (w.heap.size + 1) rfl rfl (load_list AN.out.2.1) (load_bool AN.out.2.2.1), _, ys, true, rfl, HG.out, AN.out.2.2.2.2 _ _ O6.out, AN.out.2.2.2.1⟩
      · have hoth := other_beq (A := A) (B := s) (by rw [HA.out]; exact heq)
        have HG := Lib.hid ((HGT.out ys (.inr HEN.out)).2 heq)
        gi_wp2
        have AN := Lib.hid (G6.out.answer (.slice none 0 0) false rfl)
        refine ⟨by simp, .inl ⟨_, _, rfl, run_takeDeferred AN.out.1, ?_⟩⟩
        exact ⟨_, res_two Try.results16 _ _ w.heap.size (w.heap.size + 1) rfl rfl (load_list AN.out.2.1) (load_bool AN.out.2.2.1), _, [], false, rfl, HG.out, own_nil _ _, AN.out.2.2.2.1⟩
    · refine ⟨⟨_, rfl⟩, .inr ⟨st.loop, ?_⟩⟩
      rw [HTL.out] at hrd
      have hne : putBlock pre every ≠ s.data.toList := by rw [putBlock_no (block_no1 h50)]; exact Ne.symm hs0
      have HG := Lib.hid ((HGT.out pre (.inl ⟨key, a, hrd, h50⟩)).2 hne)
      have lt := st.lt
      obtain ⟨W5, hW5⟩ : ∃ W5, W.putObj (w1.heap.size + 1 + 1 + 1) (.loop { r with state := .exhausted, pending := some .ret }) = W5 := ⟨_, rfl⟩
      have no : ∀ (k : Nat) (o : Obj), W.heap[k]? = some o → k ≠ w1.heap.size + 1 + 1 + 1 → W5.heap[k]? = some o := fun k o hk hne => by rw [← hW5]; exact (World.putObj_heap_other hne).trans hk
      have k4 := no _ _ st.r4 (by omega)
      have k5 := no _ _ st.r5 (by omega)
      have kd := no _ _ st.dfr (by omega)
      have kb : Below w.heap.size w W5 := by rw [← hW5]; exact st.below.trans (belowK_b (w := w) (Nat.le_refl _) W _ _ _ (by omega) st.loop rfl rfl)
      rw [hW5]
      clear hW5 no
      have q4 := (World.putObj_heap_other (w := W5) (r := w1.heap.size + 1 + 1) (o := .deferred none) (k := w.heap.size) (by omega)).trans k4
      have q5 := (World.putObj_heap_other (w := W5) (r := w1.heap.size + 1 + 1) (o := .deferred none) (k := w.heap.size + 1) (by omega)).trans k5
      refine ⟨by simp, .inl ⟨_, _, rfl, run_takeDeferred kd, ?_⟩⟩
      exact ⟨_, res_two Try.results16 _ _ w.heap.size (w.heap.size + 1) rfl rfl (load_list q4) (load_bool q5), _, [], false, rfl, HG.out, own_nil _ _, kb.trans (belowK_b (w := w) (Nat.le_refl _) W5 _ _ _ (by omega) kd rfl rfl)⟩
end Go.Proofs.Ytgonnibakkabjaa
