/- The program's Filter: the bits of each key's places are set as they are told. -/
import Derived.Test.YtkomnnijnggbpaaZ5
import Derived.Test.YtkomnnijnggbpaaMayI
namespace Go.Proofs.Ytkomnnijnggbpaa
open Go.RowKit Go.Shelf
set_option linter.unusedVariables false
attribute [local go_sem] Oper.semAt_some

def Marks (B M : Nat) (Ds : List Nat) (W : World) : Prop := Ds.Nodup ∧ ∀ D ∈ Ds, B ≤ D ∧ D < M ∧ W.heap[D]? = some (.deferred (some []))
def marksOf (Ds : List Nat) : List Deferred := Ds.map (fun D => { target := .collected D, args := #[] })
theorem one_below0 (w : World) (o : Obj) : Below w.heap.size w (w.alloc o) := (Below.refl _ w).alloc (Nat.le_refl _) o
theorem leaves_marks {F : Fence} {n : Nat} {P : Program} {fn : Func} {tmps : Array Value} {R : Ending → World → Prop} {u : FrameMode} (hu : u ≠ .run) (B M : Nat) :
   ∀ (Ds : List Nat) (W : World), Marks B M Ds W → M ≤ W.heap.size → (∀ W', Below B W W' → LeavesInM F n P fn tmps R [] u W') → LeavesInM F n P fn tmps R (marksOf Ds) u W := by
 intro Ds
 induction Ds with
 | nil => intro W _ _ h; exact h W (Below.refl _ _)
 | cons D Ds ih =>
   intro W hM hs h
   have hD := hM.2 D (by simp)
   refine ⟨hu, .inl ⟨D, _, rfl, run_takeDeferred hD.2.2, ih _ ⟨(List.nodup_cons.1 hM.1).2, fun D' hD' => ?_⟩ (by simpa using hs) (fun W' hb => h W' ?_)⟩⟩
   · have h1 := hM.2 D' (by simp [hD'])
     exact ⟨h1.1, h1.2.1, (World.putObj_heap_other (fun e => (List.nodup_cons.1 hM.1).1 (by rw [← e]; exact hD'))).trans h1.2.2⟩
   · have hb0 : Below B W (W.putObj D (.deferred none)) := ⟨rfl, rfl, rfl, by simp, fun k hk => World.putObj_heap_other (by omega)⟩
     exact hb0.trans hb
theorem Marks.grown {B M b : Nat} {Ds : List Nat} {X Y : World} {row : Option Nat} (h : Marks B M Ds X) (hb : M ≤ b) (hg : X.grownBy Y row) (hr : ∀ r, row = some r → b ≤ r) : Marks B M Ds Y :=
 ⟨h.1, fun D hD => by
   obtain ⟨h1, h2, h3⟩ := h.2 D hD
   exact ⟨h1, h2, (hg.block D (Array.getElem?_eq_some_iff.1 h3).1 (fun e => by have := hr _ e.symm; omega)).trans h3⟩⟩

structure FilAt (w : World) (Bf M : Nat) (bs : List UInt8) (Mx : Nat) (Ds : List Nat) (W : World) : Prop where
 arr : BArr w W w.heap.size bs
 box : Boxed W Bf 22 (.slice (some ⟨w.heap.size, 0, none⟩) M M)
 lt : w.heap.size < Bf
 size : Bf < Mx ∧ Mx ≤ W.heap.size
 marks : Marks (Bf + 1) Mx Ds W
theorem FilAt.grown {w : World} {Bf M : Nat} {bs : List UInt8} {Mx b : Nat} {Ds : List Nat} {X Y : World} {row : Option Nat} (h : FilAt w Bf M bs Mx Ds X) (hb : Mx ≤ b) (hg : X.grownBy Y row) (hr : ∀ r, row = some r → b ≤ r) : FilAt w Bf M bs Mx Ds Y := by
 have h1 := h.lt
 have h2 := h.size
 have far : ∀ k, k < Mx → some k ≠ row := fun k hk e => by have := hr k e.symm; omega
 exact ⟨⟨(hg.block _ (Array.getElem?_eq_some_iff.1 h.arr.block).1 (far _ (by omega))).trans h.arr.block, h.arr.own, h.arr.below.grown hg h.arr.below.size (fun r e => by have := hr r e; omega)⟩,
   h.box.kept hg (far _ (by omega)), h1, ⟨h2.1, Nat.le_trans h2.2 hg.size⟩, h.marks.grown hb hg hr⟩
theorem FilAt.more {w : World} {Bf M : Nat} {bs : List UInt8} {Mx My : Nat} {Ds : List Nat} {W : World} (h : FilAt w Bf M bs Mx Ds W) (h1 : Mx ≤ My) (h2 : My ≤ W.heap.size) : FilAt w Bf M bs My Ds W :=
 ⟨h.arr, h.box, h.lt, ⟨Nat.lt_of_lt_of_le h.size.1 h1, h2⟩, ⟨h.marks.1, fun D hD => by obtain ⟨a, b, c⟩ := h.marks.2 D hD; exact ⟨a, by omega, c⟩⟩⟩
theorem FilAt.mark {w : World} {Bf M : Nat} {bs : List UInt8} {Mx My : Nat} {Ds : List Nat} {D : Nat} {W : World} (h : FilAt w Bf M bs Mx Ds W) (h1 : Mx ≤ D) (h2 : W.heap[D]? = some (.deferred (some []))) (h3 : D < My) (h4 : My ≤ W.heap.size) : FilAt w Bf M bs My (D :: Ds) W := by
 have hm := h.more (show Mx ≤ My by omega) h4
 refine ⟨h.arr, h.box, h.lt, hm.size, List.nodup_cons.2 ⟨fun hD => ?_, h.marks.1⟩, fun D' hD' => ?_⟩
 · have := (h.marks.2 D hD).2.1
   omega
 · rcases List.mem_cons.1 hD' with rfl | h'
   · exact ⟨by have := h.size; omega, h3, h2⟩
   · exact hm.marks.2 D' h'
theorem FilAt.set {w : World} {Bf M : Nat} {bs : List UInt8} {Mx : Nat} {Ds : List Nat} {W : World} (h : FilAt w Bf M bs Mx Ds W) (q : Nat) (v : UInt8) : FilAt w Bf M (bs.set q v) Mx Ds (W.setCell ⟨w.heap.size, q, none⟩ (.int .u8 (v.toNat : Int))) := by
 have hne : ∀ k, k ≠ w.heap.size → (W.setCell ⟨w.heap.size, q, none⟩ (.int .u8 (v.toNat : Int))).heap[k]? = W.heap[k]? := fun k hk => Below.heap_setCell _ _ _ _ hk
 have h1 := h.lt
 exact ⟨h.arr.set q _ rfl, (hne _ (by omega)).trans h.box, h1, by simpa using h.size, h.marks.1, fun D hD => by
   obtain ⟨a, b, c⟩ := h.marks.2 D hD
   exact ⟨a, b, (hne _ (by omega)).trans c⟩⟩
theorem FilAt.drew {w : World} {Bf M : Nat} {bs : List UInt8} {Mx : Nat} {Ds : List Nat} {W : World} (h : FilAt w Bf M bs Mx Ds W) : FilAt w Bf M bs Mx Ds W.drew := ⟨h.arr.drewN 1, h.box, h.lt, h.size, h.marks⟩

theorem wpIn_makeB {F : Fence} {n : Nat} {w : World} {ops : Array Oper} {rest : List Oper} {o : Oper} {act : Act} {Q : Exit → Act → World → Prop} (hgd : o.guard = none) (l c : Operand) (hop : o.op = Op.makeSlice 22 l c)
   (L C : Int) (m : Nat) (hl : act.eval l = .int .i64 L) (hc : act.eval c = .int .i64 C) (hL : L = m) (hC : C = m) (hm : m < 1000000000)
   (hk : ∀ w', BArr w w' w.heap.size (List.replicate m 0) → wpListIn F n Try.prog ops Q rest (act.put o.dst (.slice (some ⟨w.heap.size, 0, none⟩) m m)) w') :
   wpListIn F n Try.prog ops Q (o :: rest) act w := by
 obtain ⟨ti, hti, hz0, hz1, hz2⟩ := info_parts infoB
 refine wpListIn_plain hgd fun K hK' => ?_
 obtain ⟨w', hrun, hown, hg⟩ := run_make_full (P := Try.prog) w w.heap.size 22 5 ti (.int .u8 0) 1 Try.underlying22 hti hz0 hz1 .i64 .i64 m (by rw [hz2]; omega) (by unfold maxLen; omega) (Nat.le_refl _)
 subst hL hC
 have hk' := hk w' (by
   refine ⟨?_, Nat.le_refl _, ⟨hg.os, hg.tape, hg.output, hg.size, fun k hk => hg.block k hk (by simp)⟩⟩
   rcases hown.2 with ⟨h0, _⟩ | ⟨g, cap, cur, h1, _, h2, _, _, h3, h4⟩
   · cases h0
   · cases h1
     rw [h2]
     have e : cur = ((List.replicate m (0 : UInt8)).map u8v).toArray := by
       apply Array.toList_inj.1
       rw [← madeB, ← h4, List.take_of_length_le (by simp; omega)]
     rw [e])
 unfold Oper.wpIn
 refine ⟨?_, ?_⟩
 · simp [Oper.about, hop]
 · rw [Oper.semAt_plain F _ _ (by rw [hop]; intro c hc'; cases hc')]
   simp [execOp, hop, hl, hc, hrun, Result.andThen]
   exact hK' _ _ hk'

set_option maxRecDepth 100000 in
set_option maxHeartbeats 2000000 in
theorem implFilter_in (a : Option Addr) (n c : Nat) (keys : List ByteArray) (hn : n ≤ 200) (hf : FitS keys) (w : World) (h : StrAt w a n c keys) :
   CallsIn Fence.wide 5 Try.prog 58 #[.slice a n c] w fun e w' => e = .returned (.string ⟨(filterB (lists keys)).toArray⟩) ∧ Below w.heap.size w w' := by
 have HS := Lib.hid h
 have HF := Lib.hid hf
 have hnc := h.2.1
 obtain ⟨M, hM⟩ : ∃ M, fsize n = M := ⟨_, rfl⟩
 have hM1 : 1 ≤ M := by rw [← hM]; exact fsize_pos n
 have hM2 : M ≤ 250 := by rw [← hM]; exact fsize_le hn
 have HMM := Lib.hid hM
 have HMax := Lib.hid (show (if 1 < (10 * (n : Int) + 8 - 1) / 8 then (10 * (n : Int) + 8 - 1) / 8 else 1) = (M : Int) by
   unfold fsize at hM
   split at hM <;> split <;> omega)
 have HMax2 := Lib.hid (show max 1 ((10 * (n : Int) + 8 - 1) / 8) = (M : Int) by
   unfold fsize at hM
   split at hM <;> omega)
 clear h hf hM
 refine callsIn_of_wp_marks Try.func58 rfl trivial ?_ rfl
 simp only [Try.ntmps58, List.size_toArray, List.length_cons, List.length_nil, Nat.reduceAdd, Nat.reduceSub, Array.replicate_succ, Array.replicate_zero, List.push_toArray, List.append_toArray, List.nil_append, List.cons_append]
 gi_wp2_with (gi_at_make; (first | rw [HMax.out] | rw [HMax2.out]); refine wpIn_makeB rfl _ _ rfl _ _ M rfl rfl rfl rfl (by omega) ?_; intro w2 t2; have T2 := Lib.hid t2; clear t2)
 have F0 := Lib.hid (show FilAt w w2.heap.size M (List.replicate M 0) (w2.heap.size + 1) [] (w2.alloc (.cells #[.slice (some ⟨w.heap.size, 0, none⟩) M M] 22)) from
   ⟨T2.out.later (one_below0 w2 _), Boxed.new w2 _ _, (Array.getElem?_eq_some_iff.1 T2.out.block).1, ⟨Nat.lt_succ_self _, by simp⟩, List.nodup_nil, fun _ h => by cases h⟩)
 obtain ⟨w3, hw3⟩ : ∃ W, w2.alloc (.cells #[.slice (some ⟨w.heap.size, 0, none⟩) M M] 22) = W := ⟨_, rfl⟩
 obtain ⟨Bf, hBf⟩ : ∃ B, w2.heap.size = B := ⟨_, rfl⟩
 rw [hw3, hBf] at F0
 rw [hw3, hBf]
 clear hw3 hBf T2
 refine wpIn_loop (fun a' W => ∃ (i : Nat) (Ds : List Nat) (Mx : Nat) (u6 u23 u24 u25 u26 u27 u28 u29 u40 : Value), i ≤ n ∧ Hid (FilAt w Bf M (fillF (8 * M) (List.replicate M 0) ((lists keys).take i)) Mx Ds W) ∧
     a' = { tmps := #[.slice a n c, undef, .string ⟨#[]⟩, .int .i64 M, .pointer (some ⟨Bf, 0, none⟩), undef, u6, undef, .slice a n c, .int .i64 n, .bool (decide (200 < (n : Int))), .slice a n c, .int .i64 n, .int .i64 (10 * (n : Int)), .int .i64 (10 * (n : Int) + 8), .int .i64 (10 * (n : Int) + 8 - 1), .int .i64 ((10 * (n : Int) + 8 - 1) / 8),
       .int .i64 M, .int .i64 M, .slice (some ⟨w.heap.size, 0, none⟩) M M, .slice a n c, .int .i64 n, .int .i64 i, u23, u24, u25, u26, u27, u28, u29, undef, undef, undef, undef, undef, undef, undef, undef, undef, undef, u40, undef, undef], defers := marksOf Ds })
   (fun a' _ => n - (intOf (a'.tmps.getD 22 undef)).toNat) ?_ ?_
 · exact ⟨0, [], _, _, _, _, _, _, _, _, _, _, Nat.zero_le _, F0.out, rfl⟩
 · rintro a' W ⟨i, Ds, Mx, u6, u23, u24, u25, u26, u27, u28, u29, u40, hi, HFA, rfl⟩
   by_cases hlt : i < n
   · obtain ⟨s, hs⟩ : ∃ s, keys[i]? = some s := ⟨_, List.getElem?_eq_getElem (by rw [HS.out.1]; exact hlt)⟩
     obtain ⟨g, hg, cs⟩ := HS.out.2.2 i _ hs
     subst hg
     have c0 := (HFA.out.arr.below.cell (p := ⟨g, i, none⟩) (cell_lt cs)).trans cs
     have HK := Lib.hid (show fillF (8 * M) (List.replicate M 0) ((lists keys).take (i + 1)) = setAll (fillF (8 * M) (List.replicate M 0) ((lists keys).take i)) (six (hash s.data.toList) (8 * M) 6) by
       rw [take_next (lists_at hs), fillF_snoc])
     have HLL := Lib.hid (show (fillF (8 * M) (List.replicate M 0) ((lists keys).take i)).length = M by rw [fillF_len, List.length_replicate])
     have HSF := Lib.hid (HF.out s (List.mem_of_getElem? hs))
     obtain ⟨base, hbase⟩ : ∃ base, fillF (8 * M) (List.replicate M 0) ((lists keys).take i) = base := ⟨_, rfl⟩
     rw [hbase] at HK HLL HFA
     have i1 : (i : Int) < (n : Int) := by omega
     have i0 : (0 : Int) ≤ (i : Int) := by omega
     have HPR := Lib.hid (show probes s.data.toList (8 * (M : Int)) = six (hash s.data.toList) (8 * M) 6 by
       rw [show (8 * (M : Int)) = ((8 * M : Nat) : Int) by omega]
       exact probes_yes (by omega) (by omega))
     clear hs cs hbase
     gi_wp2_with fail
     refine ⟨trivial, ?_⟩
     refine (placesOf_at _ _ _ _).mono ?_
     rintro e w' ⟨rfl, rfl⟩
     have bS := Boxed.new W 9 (.string s)
     have bB := Boxed.new (W.alloc (.cells #[.string s] 9)) 3 (.int .i64 (8 * (M : Int)))
     simp only [World.size_alloc] at bS bB
     have F5 := Lib.hid (show FilAt w Bf M base (W.heap.size + 2) Ds ((W.alloc (.cells #[.string s] 9)).alloc (.cells #[.int .i64 (8 * (M : Int))] 3)) from
       ((HFA.out.grown (Nat.le_refl _) (World.grownBy_alloc W _ none) (fun _ h => by cases h)).grown (Nat.le_refl _) (World.grownBy_alloc _ _ none) (fun _ h => by cases h)).more (by have := HFA.out.size; omega) (by simp))
     have XX := Lib.hid (show Boxed ((W.alloc (.cells #[.string s] 9)).alloc (.cells #[.int .i64 (8 * (M : Int))] 3)) W.heap.size 9 (.string s) ∧ Boxed ((W.alloc (.cells #[.string s] 9)).alloc (.cells #[.int .i64 (8 * (M : Int))] 3)) (W.heap.size + 1) 3 (.int .i64 (8 * (M : Int))) from ⟨bS.alloc _, bB⟩)
     have hz5 : ((W.alloc (.cells #[.string s] 9)).alloc (.cells #[.int .i64 (8 * (M : Int))] 3)).heap.size = W.heap.size + 2 := by simp
     have HBW := Lib.hid (show w.heap.size < W.heap.size ∧ Bf < W.heap.size ∧ Mx ≤ W.heap.size from ⟨by have := HFA.out.lt; have := HFA.out.size; omega, by have := HFA.out.size; omega, HFA.out.size.2⟩)
     clear bS bB c0
     obtain ⟨w5, hw5⟩ : ∃ X, (W.alloc (.cells #[.string s] 9)).alloc (.cells #[.int .i64 (8 * (M : Int))] 3) = X := ⟨_, rfl⟩
     rw [hw5] at F5 XX hz5 ⊢
     clear hw5
     gi_wp2_with fail
     refine wpIn_rangeFunc_ownG (α := Spot (8 * M)) rfl (by decide) (gf := 68) (lb := #[.pointer (some ⟨W.heap.size + 1, 0, none⟩), .pointer (some ⟨W.heap.size, 0, none⟩)]) rfl trivial (enters_of Try.func68 (by kernel_rfl) rfl)
       (places_stops 4 W.heap.size (W.heap.size + 1) s (8 * (M : Int)) _ (by omega) HSF.out w5 XX.out.1 XX.out.2) KeptTwo.trans (keptTwo_put (by omega) (by omega)) (Below.refl _ _) (fun _ => rfl)
       (fun pre X => FilAt w Bf M (setAll base (spots pre)) (W.heap.size + 2) Ds X) (fun _ _ _ => False) (fun pre X Y row h hg hr => h.grown (Nat.le_refl _) hg (fun r e => by have := (hr r e).1; omega)) (fun _ _ _ _ _ hs _ _ => hs)
       F5.out
       (fun x => { tmps := #[.slice (some ⟨g, 0, none⟩) n c, undef, .string ⟨#[]⟩, .int .i64 M, .pointer (some ⟨Bf, 0, none⟩), undef, .string s, .int .i64 x.at_, .slice (some ⟨g, 0, none⟩) n c, .int .i64 n, .bool (decide (200 < (n : Int))), .slice (some ⟨g, 0, none⟩) n c, .int .i64 n, .int .i64 (10 * (n : Int)), .int .i64 (10 * (n : Int) + 8), .int .i64 (10 * (n : Int) + 8 - 1), .int .i64 ((10 * (n : Int) + 8 - 1) / 8),
       .int .i64 M, .int .i64 M, .slice (some ⟨w.heap.size, 0, none⟩) M M, .slice (some ⟨g, 0, none⟩) n c, .int .i64 n, .int .i64 i, .bool true, .pointer (some ⟨g, i, none⟩), .string s, .string s, .int .i64 M, .int .i64 (8 * (M : Int)), .func (.func 68) #[] #[.pointer (some ⟨W.heap.size + 1, 0, none⟩), .pointer (some ⟨W.heap.size, 0, none⟩)], .int .i64 x.at_, undef, undef, undef, undef, undef, undef, undef, undef, undef, u40, undef, undef], defers := [] }) ?assign ?body ?done ?stop
     case assign =>
       intro l x W K hK
       gi_wp2
       exact hK
     case body =>
       rintro l pre ⟨p, hpl⟩ X hfa hlt2
       have HX := Lib.hid hfa
       have cb := hfa.box.cell
       have hne := hfa.lt
       obtain ⟨q, hq⟩ : ∃ q, p / 8 = q := ⟨_, rfl⟩
       obtain ⟨r, hr⟩ : ∃ r, p % 8 = r := ⟨_, rfl⟩
       have hqM : q < M := by omega
       have hr8 : r < 8 := by omega
       have HL2 := Lib.hid (show (setAll base (spots pre)).length = M by rw [setAll_len, HLL.out])
       have HT := Lib.hid (show setAll base (spots (pre ++ [(⟨p, hpl⟩ : Spot (8 * M))])) = (setAll base (spots pre)).set q (UInt8.ofNat (((setAll base (spots pre)).getD q 0).toNat ||| 2 ^ r)) by rw [spots_snoc, setAll_snoc, setBit_is _ _ _ _ hq hr])
       have c3 := hfa.arr.cell q (by rw [HL2.out]; exact hqM)
       have f3 := hfa.arr.frozen q
       have e1 : (p : Int) / 8 = (q : Int) := by omega
       have e3 : IntKind.i64.wrap (q : Int) = (q : Int) := IntWalk.i64_in _ (by omega)
       obtain ⟨x, hx⟩ : ∃ x, (setAll base (spots pre)).getD q 0 = x := ⟨_, rfl⟩
       rw [hx] at c3 HT
       change X.cell? ⟨w.heap.size, q, none⟩ = some (.int .u8 (x.toNat : Int)) at c3
       have HV := Lib.hid (or_bit x r hr8)
       have q1 : (q : Int) < (M : Int) := by omega
       have q0 : (0 : Int) ≤ (q : Int) := by omega
       have hmix : Try.prog.follows .mixedOrders = true := by kernel_rfl
       clear hx hfa
       refine wpIn_mono (Q := fun e a Y => e = .normal ∧ Y = (X.setCell ⟨w.heap.size, q, none⟩ (.int .u8 (bits .or .u8 (x.toNat : Int) (2 ^ min r 8 % 256)))).drew) ?_ ?_
       · gi_wp2_with fail
         gi_region_with_o (refine ⟨trivial, (round_calls (implBitAt p r hr (by omega) _)).mono ?_⟩; rintro e' w' ⟨rfl, rfl⟩)
         all_goals exact ⟨rfl, rfl⟩
       · rintro e a' Y ⟨rfl, rfl⟩
         rw [HV.out]
         refine ⟨((KeepsOthers.setCell _ _ _).trans (KeepsOthers.drew _)).from _, ⟨Below.heap_setCell _ _ _ _ (by have := HBW.out; show W.heap.size ≠ w.heap.size; omega), Below.heap_setCell _ _ _ _ (by have := HBW.out; show W.heap.size + 1 ≠ w.heap.size; omega)⟩, ?_⟩
         show FilAt w Bf M (setAll base (spots (pre ++ [(⟨p, hpl⟩ : Spot (8 * M))]))) (W.heap.size + 2) Ds _
         rw [HT.out]
         exact (HX.out.set q _).drew
     case done =>
       rintro D ys X hD hys hfa hK
       rw [hys, HPR.out, ← HK.out] at hfa
       have HE := Lib.hid (hfa.mark (My := D + 1) (by omega) hK (Nat.lt_succ_self _) (Array.getElem?_eq_some_iff.1 hK).1)
       clear hfa hys
       gi_wp2
       rw [show (i : Int) + 1 = ((i + 1 : Nat) : Int) by omega]
       refine ⟨⟨i + 1, D :: Ds, D + 1, _, _, _, _, _, _, _, _, _, by omega, HE.out, rfl⟩, ?_⟩
       simp [intOf]
       omega
     case stop =>
       rintro D c pre W _ _ h _
       exact h.elim
   · obtain rfl : i = n := by omega
     have HE := Lib.hid (show fillF (8 * M) (List.replicate M 0) ((lists keys).take i) = filterB (lists keys) by
       rw [List.take_of_length_le (by rw [lists_len, HS.out.1]; omega)]
       unfold filterB
       rw [if_pos (by rw [lists_len, HS.out.1]; omega), lists_len, HS.out.1, HMM.out])
     have hcv := HFA.out.arr.str (c := M) (n := M) (by rw [fillF_len, List.length_replicate])
     have cb := HFA.out.box.cell
     rw [HE.out] at hcv
     gi_wp2
     refine leaves_marks (fun h => by cases h) w.heap.size Mx Ds W ?_ HFA.out.size.2 (fun W' hb => ?_)
     · exact ⟨HFA.out.marks.1, fun D hD => by obtain ⟨h1, h2⟩ := HFA.out.marks.2 D hD; exact ⟨by have := HFA.out.lt; omega, h2⟩⟩
     · exact ⟨_, results_tmp rfl _ _ _, rfl, HFA.out.arr.below.trans hb⟩
theorem implFilter (a : Option Addr) (n c : Nat) (keys : List ByteArray) (hn : n ≤ 1048576) (hf : FitS keys) (w : World) (h : StrAt w a n c keys) :
   Calls Try.prog 58 #[.slice a n c] w fun e w' => e = .returned (.string ⟨(filterB (lists keys)).toArray⟩) ∧ Below w.heap.size w w' := by
 by_cases h2 : n ≤ 200
 · exact callsIn_wide.1 (implFilter_in a n c keys h2 hf w h)
 · have HE := Lib.hid (filter_no (keys := lists keys) (by rw [lists_len, h.1]; omega))
   have hnc := h.2.1
   have h2i : (200 : Int) < (n : Int) := by omega
   clear h hf
   go_enter Try.func58, Try.ntmps58
   go_wp2
   go_ret
   exact ⟨by rw [HE.out]; rfl, Below.refl _ _⟩
end Go.Proofs.Ytkomnnijnggbpaa
