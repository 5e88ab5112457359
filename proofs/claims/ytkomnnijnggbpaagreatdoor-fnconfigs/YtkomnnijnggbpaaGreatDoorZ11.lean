/- The program's iterator over the cells of entries: it yields them in order, as long as it is let. -/
import Derived.Test.YtkomnnijnggbpaaGreatDoorZ0
import Derived.Test.YtkomnnijnggbpaaGreatDoorZ1
import Derived.Test.YtkomnnijnggbpaaGreatDoorReadKeyI
import Derived.Test.YtkomnnijnggbpaaGreatDoorTimes
import Derived.Test.YtkomnnijnggbpaaGreatDoorZ10
import Derived.Test.YtkomnnijnggbpaaGreatDoorCellS
import Derived.Test.YtkomnnijnggbpaaGreatDoorPutBlockS
namespace Go.Proofs.YtkomnnijnggbpaaGreatDoor
open Go.RowKit Go.Shelf
set_option linter.unusedVariables false
attribute [local go_sem] Oper.semAt_some

def KeepT (W W' : World) : Prop := (∀ (k : Nat) (cs : Array Value) (T : TypeId) (fz : Nat × Nat), W.heap[k]? = some (Obj.cells cs T fz) → T ≠ 41 → T ≠ 24 → W'.heap[k]? = some (Obj.cells cs T fz)) ∧ W.heap.size ≤ W'.heap.size
theorem part_text (s : ByteArray) (a n : Nat) : (s.extract a (a + n)).data.toList = (s.data.toList.drop a).take n := by
 simp only [ByteArray.data_extract, Array.toList_extract, List.extract_eq_take_drop]
 congr 1
 omega

set_option maxRecDepth 100000 in
set_option maxHeartbeats 4000000 in
theorem cells_in (n l Bt : Nat) (s : ByteArray) (hs : s.size ≤ 1048576) (J Jx : List Cel → World → Prop)
   (hY : ∀ pre x W, J pre W → pre.length ≤ s.size → YieldAt Fence.wide (n - 1) Tryz.prog l #[celVal x] W fun e' W' =>
     (e' = .returned (.bool true) ∧ (J (pre ++ [x]) W' ∧ KeepT W W')) ∨ (e' = .returned (.bool false) ∧ Jx (pre ++ [x]) W'))
   (W : World) (hJ : AbidesT 113 W.heap.size J) (ht : W.cell? ⟨Bt, 0, none⟩ = some (.string s)) (h0 : J [] W) :
   CallsIn Fence.wide n Tryz.prog 161 #[.func (.yield l) #[] #[], .pointer (some ⟨Bt, 0, none⟩)] W fun e' W' => (∃ v, e' = .returned v) ∧
     ((∃ ys, Ended s.data.toList ys ∧ J ys W') ∨ (∃ pre, (∃ key a, Rd s.data.toList pre key a) ∧ Jx pre W')) := by
 have HLL := Lib.hid (show s.data.toList.length = s.size by simp)
 have HY := Lib.hid hY
 have H0 := Lib.hid (hJ _ _ (W.alloc (.cells #[.string s, .int .i64 0] 113)) none h0 (World.grownBy_alloc W _ none) (fun _ h => by cases h))
 have R0 := Lib.hid (rd_new W s 0)
 have HJ := Lib.hid hJ
 clear hY h0 hJ
 refine callsIn_of_wp Tryz.func161 rfl trivial ?_ rfl
 simp only [Tryz.ntmps161, List.size_toArray, List.length_cons, List.length_nil, Nat.reduceAdd, Nat.reduceSub, Array.replicate_succ, Array.replicate_zero, List.push_toArray, List.append_toArray, List.nil_append, List.cons_append]
 gi_wp2
 clear ht
 obtain ⟨c, hc⟩ : ∃ c, W.heap.size = c := ⟨_, rfl⟩
 rw [hc] at HJ R0 ⊢
 clear hc
 gi_loopw [4] (fun v wr => ∃ (pre : List Cel) (key : List UInt8) (a : Nat), a ≤ s.size ∧ wr.cell? ⟨c, 1, none⟩ = some (.int .i64 a) ∧ Hid (Rd s.data.toList pre key a ∧ RdAt wr c s a ∧ KeyAt wr v key ∧ J pre wr))
   (fun _ wr => match wr.cell? ⟨c, 1, none⟩ with | some (.int _ a) => s.size - a.toNat | _ => 0)
 case atStart => exact ⟨[], [], 0, by omega, R0.out.cells.2.1, ⟨Rd.nil, R0.out, .inl ⟨rfl, rfl⟩, H0.out⟩⟩
 case round =>
   obtain ⟨pre, key, a, ha, hca, HX⟩ := hrel
   have HCA := Lib.hid hca
   have HPL := Lib.hid (show pre.length ≤ s.size by have := rd_len HX.out.1; rw [HLL.out] at this; omega)
   have hkl : key.length ≤ a := (rd_len HX.out.1).1
   clear hca
   gi_wp2_with fail
   refine ⟨trivial, (fun h => by cases h), ?_⟩
   refine (callsIn_wide.2 (takeEntry_at c s a _ HX.out.2.1 hs ha)).mono ?_
   rintro e' w1 ⟨hg1, (⟨sh, m, z, a3, hrd, rfl, hr1⟩ | ⟨hrd, n1, X, b1, V, rfl⟩)⟩
   · have hb := rd_some hrd
     rw [HLL.out] at hb
     obtain ⟨q1, q2, q3, q4, q5⟩ := hb
     have HRD := Lib.hid hrd
     obtain ⟨X, hX⟩ : ∃ X, s.extract a3 (a3 + m) = X := ⟨_, rfl⟩
     obtain ⟨V, hV⟩ : ∃ V, s.extract (a3 + m) (a3 + m + z / 2) = V := ⟨_, rfl⟩
     obtain ⟨G, hG⟩ : ∃ G, decide (z % 2 = 1) = G := ⟨_, rfl⟩
     rw [hX, hV, hG]
     have HXL := Lib.hid (show X.data.toList = (s.data.toList.drop a3).take m by rw [← hX]; exact part_text _ _ _)
     have HVL := Lib.hid (show V.data.toList = (s.data.toList.drop (a3 + m)).take (z / 2) by rw [← hV]; exact part_text _ _ _)
     have HGG := Lib.hid hG
     have hXs : X.size ≤ m := by rw [← hX, ByteArray.size_extract]; omega
     have K1 := Lib.hid (HX.out.2.2.1.keep (W' := w1) (fun g cur hg => keptT hg1 (T := 113) (fun r e => by cases e; exact ⟨_, _, HX.out.2.1⟩) hg (fun cs fz h => by cases h)))
     have RR1 := Lib.hid hr1
     have GG1 := Lib.hid hg1
     have B2 := Lib.hid (one_below w1 (.cells #[.int .i64 sh, .string X, .bool G, .string V] 153))
     have E1 := Lib.hid (alloc_at w1 (.cells #[.int .i64 sh, .string X, .bool G, .string V] 153))
     have KK := Lib.hid (K1.out.below B2.out)
     have RR := Lib.hid ((B2.out.block c hr1.lt).trans hr1)
     have GG := Lib.hid (grown_then hg1 B2.out)
     clear hrd hr1 hg1 hX hV hG K1
     obtain ⟨ad, cap, hv, hcap⟩ := KK.out.form
     rename_i v0 _ _ _
     subst hv
     by_cases hsh : sh ≤ key.length
     · have d1 : ¬ (key.length : Int) < (sh : Int) := by omega
       obtain ⟨f0, f1, f2, f3⟩ := blk4 E1.out
       gi_wp2_with fail
       clear f0 f1 f2 f3
       obtain ⟨w2, hw2⟩ : ∃ w2, w1.alloc (.cells #[.int .i64 sh, .string X, .bool G, .string V] 153) = w2 := ⟨_, rfl⟩
       obtain ⟨E, hE⟩ : ∃ E, w1.heap.size = E := ⟨_, rfl⟩
       rw [hw2, hE] at E1
       rw [hw2] at KK RR GG
       rw [hw2, hE]
       clear hw2 hE B2 RR1 GG1
       --%REG4
       refine wpIn_wide.2 ?_
       refine wp_region_held_drew (S := fun w' => w'.heap[E]? = some (.cells #[.int .i64 sh, .string X, .bool G, .string V] 153 (0, 0)) ∧ KeyAt w' (.slice ad key.length cap) key ∧ RdAt w' c s (a3 + m + z / 2 : Nat) ∧ wr.grownBy w' (some c)) (by kernel_rfl) ⟨E1.out, KK.out, RR.out, GG.out.trans (grown_drewN w2 1 (some c))⟩ (fun hHeld => ?_)
       refine tk 0 (some 25) ?_ ?hy hHeld ?_
       case hy => (intro w' hS; clear hS; go_simp <;> with_reducible rfl)
       simp only [Act.put, sA, sB, sC]
       refine tk 1 (some 26) ?_ ?hy hHeld ?_
       case hy => (intro w' hS; clear hS; go_simp <;> with_reducible rfl)
       simp only [Act.put, sA, sB, sC]
       refine tk 2 (some 27) ?_ ?hy hHeld ?_
       case hy => (intro w' hS; have h := (blk4 hS.1).1; clear hS; go_simp <;> with_reducible rfl)
       simp only [Act.put, sA, sB, sC]
       refine tk 3 (some 28) ?_ ?hy hHeld ?_
       case hy => (intro w' hS; clear hS; go_simp <;> with_reducible rfl)
       simp only [Act.put, sA, sB, sC]
       refine tk 4 (some 29) ?_ ?hy hHeld ?_
       case hy => (intro w' hS; have h := (blk4 hS.1).1; clear hS; go_simp <;> with_reducible rfl)
       simp only [Act.put, sA, sB, sC]
       refine tk 5 (some 30) ?_ ?hy hHeld ?_
       case hy => (intro w' hS; have h := cut_run w' ad key.length cap sh hsh hcap; clear hS; go_simp <;> with_reducible rfl)
       simp only [Act.put, sA, sB, sC]
       refine tk 6 (some 31) ?_ ?hy hHeld ?_
       case hy => (intro w' hS; clear hS; go_simp <;> with_reducible rfl)
       simp only [Act.put, sA, sB, sC]
       refine tk 7 (some 32) ?_ ?hy hHeld ?_
       case hy => (intro w' hS; have h := (blk4 hS.1).2.1; clear hS; go_simp <;> with_reducible rfl)
       simp only [Act.put, sA, sB, sC]
       refine wpAnyH_ready (rs := [8]) (by kernel_rfl) (by simp) ?_
       refine AllReadyH.cons rfl (fun K hK => ?_) AllReadyH.nil
       refine op_key (ad := ad) (cap := cap) (sh := sh) (key := key) X _ _ rfl rfl rfl rfl hHeld.2.1 hsh (by omega) ?_
       intro v3 w3 k3 b3
       have S3 := Lib.hid (And.intro ((b3.block E (Array.getElem?_eq_some_iff.1 hHeld.1).1).trans hHeld.1) (And.intro (hHeld.2.1.below b3) (And.intro ((b3.block c hHeld.2.2.1.lt).trans hHeld.2.2.1) (grown_then hHeld.2.2.2 b3))))
       have K3 := Lib.hid k3
       clear k3 b3
       refine hK.out _ _ S3.out (fun hHeld => ?_)
       clear hK K
       refine tk 9 (some 4) ?_ ?hy hHeld ?_
       case hy => (intro w' hS; clear hS; go_simp <;> with_reducible rfl)
       simp only [Act.put, List.setIfInBounds_toArray]
       refine wpAnyH_done (by kernel_rfl) ?_ _
       --%END4
       clear KK RR GG E1
       obtain ⟨key2, hk2⟩ : ∃ k, key.take sh ++ X.data.toList = k := ⟨_, rfl⟩
       rw [hk2] at K3
       have HK2 := Lib.hid (show key2 = key.take sh ++ (s.data.toList.drop a3).take m by rw [← hk2, HXL.out])
       have hk2l : key2.length ≤ 1048576 := by
         rw [← hk2, List.length_append, List.length_take]
         have : X.data.toList.length = X.size := by simp
         omega
       clear hk2
       obtain ⟨KT, hKT, hKs⟩ := text_of key2
       have hcv := keyAt_text K3.out
       rw [as_text hKT] at hcv
       have HKT := Lib.hid hKT
       clear hKT
       gi_wp2_with fail
       refine ⟨trivial, (fun h => by cases h), ?_⟩
       refine (callsIn_wide.2 (implReadKey KT (by omega) _)).mono ?_
       rintro e' w4 ⟨R, C, t, hri, rfl, hb4⟩
       rw [HKT.out] at hri
       have HST := Lib.hid (show Step s.data.toList a key ⟨R, C, t, G, V⟩ key2 (a3 + m + z / 2) from ⟨sh, m, z, a3, HRD.out, hsh, HK2.out, hri, HGG.out.symm, HVL.out, rfl⟩)
       have E4 := Lib.hid ((hb4.block E (Array.getElem?_eq_some_iff.1 S3.out.1).1).trans S3.out.1)
       have R4 := Lib.hid ((hb4.block c (Array.getElem?_eq_some_iff.1 S3.out.2.2.1).1).trans S3.out.2.2.1)
       have K4 := Lib.hid (K3.out.below hb4)
       have HJ4 := Lib.hid (HJ.out pre wr w4 (some c) HX.out.2.2.2 (grown_then S3.out.2.2.2 hb4) (fun r e => by cases e; exact ⟨Nat.le_refl _, _, _, HX.out.2.1⟩))
       clear hri hb4 hcv S3 K3
       obtain ⟨f0, f1, f2, f3⟩ := blk4 E4.out
       by_cases ht : t < 0
       · have HEN := Lib.hid (show Ended s.data.toList pre from ⟨key, a, HX.out.1, .inr ⟨_, _, _, HST.out, ht⟩⟩)
         gi_wp2
         refine ⟨(fun f h => by cases h), ?_⟩
         gi_wp2
         exact bodyPost_ret (results_none rfl _ _ _) rfl ⟨⟨_, rfl⟩, .inl ⟨pre, HEN.out, HJ4.out⟩⟩
       · obtain ⟨fn, tmps, assign, body, hy, hR⟩ := HY.out pre ⟨R, C, t, G, V⟩ w4 HJ4.out HPL.out
         unfold celVal at hy
         have ht' : ¬ t < 0 := ht
         gi_wp2_with fail
         refine ⟨(fun h => by cases h), hR.mono ?_⟩
         clear hy hR
         rintro e' W5 (⟨rfl, hJ5, hk5⟩ | ⟨rfl, hJx5⟩)
         · have R5 := Lib.hid (show RdAt W5 c s (a3 + m + z / 2 : Nat) from hk5.1 c _ _ _ R4.out (by decide) (by decide))
           have K5 := Lib.hid (K4.out.keep (W' := W5) (fun g cur hg => hk5.1 g _ _ _ hg (by decide) (by decide)))
           have J5 := Lib.hid hJ5
           clear hJ5 hk5 f0 f1 f2 f3
           gi_wp2
           go_roundw
           case rel => exact ⟨pre ++ [⟨R, C, t, G, V⟩], key2, a3 + m + z / 2, q2, R5.out.cells.2.1, ⟨Rd.snoc HX.out.1 HST.out, R5.out, K5.out, J5.out⟩⟩
           case measure =>
             rw [HCA.out, R5.out.cells.2.1]
             simp only [Int.toNat_natCast]
             omega
         · have HXX := Lib.hid hJx5
           clear hJx5 f0 f1 f2 f3
           gi_wp2
           exact bodyPost_ret (results_none rfl _ _ _) rfl ⟨⟨_, rfl⟩, .inr ⟨_, ⟨_, _, Rd.snoc HX.out.1 HST.out⟩, HXX.out⟩⟩
     · have d1 : (key.length : Int) < (sh : Int) := by omega
       obtain ⟨f0, f1, f2, f3⟩ := blk4 E1.out
       have HJ2 := Lib.hid (HJ.out pre wr _ (some c) HX.out.2.2.2 GG.out (fun r e => by cases e; exact ⟨Nat.le_refl _, _, _, HX.out.2.1⟩))
       have HEN := Lib.hid (show Ended s.data.toList pre from ⟨key, a, HX.out.1, .inl (step_far HRD.out (by omega))⟩)
       gi_wp2
       exact bodyPost_ret (results_none rfl _ _ _) rfl ⟨⟨_, rfl⟩, .inl ⟨pre, HEN.out, HJ2.out⟩⟩
   · have HEN := Lib.hid (show Ended s.data.toList pre from ⟨key, a, HX.out.1, .inl (step_no hrd)⟩)
     have HJ2 := Lib.hid (HJ.out pre wr _ (some c) HX.out.2.2.2 (grown_then hg1 (one_below w1 (.cells #[.int .i64 n1, .string X, .bool b1, .string V] 153))) (fun r e => by cases e; exact ⟨Nat.le_refl _, _, _, HX.out.2.1⟩))
     clear hrd hg1
     gi_wp2
     exact bodyPost_ret (results_none rfl _ _ _) rfl ⟨⟨_, rfl⟩, .inl ⟨pre, HEN.out, HJ2.out⟩⟩
structure GB (w : World) (p l d : Nat) (r : Loop) (pre : List Cel) (W : World) : Prop where
 r4 : W.heap[w.heap.size]? = some (.cells #[.slice none 0 0] 24 (0, 0))
 r5 : W.heap[w.heap.size + 1]? = some (.cells #[.bool false] 4 (0, 0))
 box : ∃ v, W.heap[p]? = some (.cells #[v] 24 (0, 0)) ∧ OwnC (p + 1) W v pre
 lt : w.heap.size + 1 < p ∧ p < d ∧ l = d + 1
 below : Below w.heap.size w W
 loop : W.heap[l]? = some (.loop r)
 dfr : W.heap[d]? = some (.deferred (some []))
 few : pre.length ≤ 50
theorem OwnC.apart {B : Nat} {W : World} {v : Value} {ys : List Cel} (h : OwnC B W v ys) {k : Nat} {o : Obj} (hk : W.heap[k]? = some o) (hn : ∀ cs fz, o ≠ .cells cs 41 fz) : v.ownBlock ≠ some k := by
 intro e
 rcases h.2 with ⟨h0, _⟩ | ⟨g, cap, cur, h1, _, h3, _⟩
 · rw [h0] at e; cases e
 · rw [h1] at e
   cases e
   rw [hk] at h3
   cases h3
   exact hn _ _ rfl
theorem OwnC.keep {B : Nat} {W W' : World} {v : Value} {ys : List Cel} (h : OwnC B W v ys) (hk : ∀ (g : Nat) (cs : Array Value), W.heap[g]? = some (Obj.cells cs 41 (0, 0)) → W'.heap[g]? = some (Obj.cells cs 41 (0, 0))) : OwnC B W' v ys := by
 refine ⟨h.1, ?_⟩
 rcases h.2 with h2 | ⟨g, cap, cur, h1, h2, h3, r⟩
 · exact .inl h2
 · exact .inr ⟨g, cap, cur, h1, h2, hk g cur h3, r⟩
theorem gb_abides {w : World} {p l d : Nat} {r : Loop} {B : Nat} (hB : w.heap.size ≤ B) : AbidesT 113 B (GB w p l d r) := by
 rintro s W W' row ⟨h4, h5, ⟨v, hb, ho⟩, hlt, hbl, hl, hd, hf⟩ hg hr
 have hr' : ∀ j, row = some j → ∃ cs fz, W.heap[j]? = some (Obj.cells cs 113 fz) := fun j e => (hr j e).2
 exact ⟨keptT hg hr' h4 (fun _ _ h => by cases h), keptT hg hr' h5 (fun _ _ h => by cases h), ⟨v, keptT hg hr' hb (fun _ _ h => by cases h), ho.keep (fun g cs hc => keptT hg hr' hc (fun _ _ h => by cases h))⟩, hlt, hbl.grown hg hbl.size (fun k e => by have := (hr k e).1; omega), keptT hg hr' hl (fun _ _ h => by cases h), keptT hg hr' hd (fun _ _ h => by cases h), hf⟩
theorem GB.turn {w : World} {p l d : Nat} {r : Loop} {pre : List Cel} {W : World} (h : GB w p l d r pre W) (r' : Loop) : GB w p l d r' pre (W.putObj l (.loop r')) := by
 obtain ⟨h4, h5, ⟨v, hb, ho⟩, hlt, hbl, hl, hd, hf⟩ := h
 have no : ∀ (k : Nat) (o : Obj), W.heap[k]? = some o → k ≠ l → (W.putObj l (.loop r')).heap[k]? = some o := fun k o hk hne => (World.putObj_heap_other hne).trans hk
 have noC : ∀ (k : Nat) (cs : Array Value) (T : TypeId) (fz : Nat × Nat), W.heap[k]? = some (Obj.cells cs T fz) → (W.putObj l (.loop r')).heap[k]? = some (Obj.cells cs T fz) := fun k cs T fz hk => no k _ hk (fun e => by rw [e, hl] at hk; cases hk)
 exact ⟨noC _ _ _ _ h4, noC _ _ _ _ h5, ⟨v, noC _ _ _ _ hb, ho.keep (fun g cs hc => noC _ _ _ _ hc)⟩, hlt, hbl.trans (belowK_b (w := w) (Nat.le_refl _) W l _ _ (by omega) hl rfl rfl), World.putObj_heap_same (Array.getElem?_eq_some_iff.1 hl).1, no _ _ hd (by omega), hf⟩
theorem GB.under {w : World} {p l d : Nat} {r : Loop} {pre : List Cel} {W W' : World} (h : GB w p l d r pre W) (hb : Below W.heap.size W W') : GB w p l d r pre W' := by
 obtain ⟨h4, h5, ⟨v, hx, ho⟩, hlt, hbl, hl, hd, hf⟩ := h
 have no : ∀ (k : Nat) (o : Obj), W.heap[k]? = some o → W'.heap[k]? = some o := fun k o hk => (hb.block k (Array.getElem?_eq_some_iff.1 hk).1).trans hk
 exact ⟨no _ _ h4, no _ _ h5, ⟨v, no _ _ hx, ho.below hb⟩, hlt, hbl.trans (hb.mono hbl.size), no _ _ hl, no _ _ hd, hf⟩
theorem GB.put {w : World} {p l d : Nat} {r : Loop} {pre : List Cel} {x : Cel} {v v' : Value} {W W' : World} (h : GB w p l d r pre W) (hb : W.heap[p]? = some (.cells #[v] 24 (0, 0))) (hg : W.grownBy W' v.ownBlock) (ho : OwnC (p + 1) W v pre) (ho' : OwnC (p + 1) W' v' (pre ++ [x])) (hf : pre.length < 50) :
   GB w p l d r (pre ++ [x]) (W'.setCell ⟨p, 0, none⟩ v') := by
 obtain ⟨h4, h5, _, hlt, hbl, hl, hd, _⟩ := h
 have no : ∀ (k : Nat) (o : Obj), W.heap[k]? = some o → (∀ cs fz, o ≠ .cells cs 41 fz) → W'.heap[k]? = some o := fun k o hk hn => (hg.block k (Array.getElem?_eq_some_iff.1 hk).1 (fun e => ho.apart hk hn e.symm)).trans hk
 have st : ∀ (k : Nat) (o : Obj), W'.heap[k]? = some o → k ≠ p → (W'.setCell ⟨p, 0, none⟩ v').heap[k]? = some o := fun k o hk hne => (Below.heap_setCell _ _ _ _ hne).trans hk
 have b1 := no _ _ hb (fun _ _ e => by cases e)
 refine ⟨st _ _ (no _ _ h4 (fun _ _ e => by cases e)) (by omega), st _ _ (no _ _ h5 (fun _ _ e => by cases e)) (by omega), ⟨v', ?_, ?_⟩, hlt, ?_, st _ _ (no _ _ hl (fun _ _ e => by cases e)) (by omega), st _ _ (no _ _ hd (fun _ _ e => by cases e)) (by omega), by simp; omega⟩
 · rw [set_block v' b1]; rfl
 · exact ho'.keep (fun g cs hc => st _ _ hc (fun e => by rw [e, b1] at hc; cases hc))
 · refine (hbl.grown hg hbl.size (fun k e => ?_)).setCell (show w.heap.size ≤ p by omega) _
   have := (ho.lt e).1
   omega
theorem KeepT.trans {X Y Z : World} (h : KeepT X Y) (k : KeepT Y Z) : KeepT X Z := ⟨fun j cs T fz hj h1 h2 => k.1 j cs T fz (h.1 j cs T fz hj h1 h2) h1 h2, Nat.le_trans h.2 k.2⟩
theorem keepT_below {W W' : World} (h : Below W.heap.size W W') : KeepT W W' := ⟨fun j cs T fz hj _ _ => (h.block j (Array.getElem?_eq_some_iff.1 hj).1).trans hj, h.size⟩
theorem keepT_turn {W : World} {l : Nat} {r : Loop} (hl : W.heap[l]? = some (.loop r)) (r' : Loop) : KeepT W (W.putObj l (.loop r')) := ⟨fun j cs T fz hj _ _ => (World.putObj_heap_other (fun e => by rw [e, hl] at hj; cases hj)).trans hj, by simp⟩
theorem keepT_set {W : World} {p : Nat} {v : Value} (hb : W.heap[p]? = some (.cells #[v] 24 (0, 0))) (v' : Value) : KeepT W (W.setCell ⟨p, 0, none⟩ v') := ⟨fun j cs T fz hj _ h2 => (Below.heap_setCell _ _ _ _ (fun e => by
   have e' : j = p := e
   rw [e', hb] at hj
   cases hj
   exact h2 rfl)).trans hj, by simp⟩
theorem keepT_grow {B : Nat} {W W' : World} {v : Value} {ys : List Cel} (ho : OwnC B W v ys) (hg : W.grownBy W' v.ownBlock) : KeepT W W' :=
 ⟨fun j cs T fz hj h1 _ => (hg.block j (Array.getElem?_eq_some_iff.1 hj).1 (fun e => ho.apart hj (fun _ _ e' => by cases e'; exact h1 rfl) e.symm)).trans hj, hg.size⟩
structure Stp (w : World) (l d : Nat) (r : Loop) (W : World) : Prop where
 r4 : W.heap[w.heap.size]? = some (.cells #[.slice none 0 0] 24 (0, 0))
 r5 : W.heap[w.heap.size + 1]? = some (.cells #[.bool false] 4 (0, 0))
 below : Below w.heap.size w W
 loop : W.heap[l]? = some (.loop r)
 dfr : W.heap[d]? = some (.deferred (some []))
 lt : w.heap.size + 1 < d ∧ l = d + 1
theorem GB.lay {w : World} {p l d : Nat} {r : Loop} {pre : List Cel} {W : World} (h : GB w p l d r pre W) (v : Value) (b : Bool) :
   ((W.setCell ⟨w.heap.size, 0, none⟩ v).setCell ⟨w.heap.size + 1, 0, none⟩ (.bool b)).heap[w.heap.size]? = some (.cells #[v] 24 (0, 0)) ∧ ((W.setCell ⟨w.heap.size, 0, none⟩ v).setCell ⟨w.heap.size + 1, 0, none⟩ (.bool b)).heap[w.heap.size + 1]? = some (.cells #[.bool b] 4 (0, 0)) ∧
   Below w.heap.size w ((W.setCell ⟨w.heap.size, 0, none⟩ v).setCell ⟨w.heap.size + 1, 0, none⟩ (.bool b)) ∧ (∀ (k : Nat) (o : Obj), W.heap[k]? = some o → k ≠ w.heap.size → k ≠ w.heap.size + 1 → ((W.setCell ⟨w.heap.size, 0, none⟩ v).setCell ⟨w.heap.size + 1, 0, none⟩ (.bool b)).heap[k]? = some o) := by
 have no : ∀ (k : Nat) (o : Obj), W.heap[k]? = some o → k ≠ w.heap.size → k ≠ w.heap.size + 1 → ((W.setCell ⟨w.heap.size, 0, none⟩ v).setCell ⟨w.heap.size + 1, 0, none⟩ (.bool b)).heap[k]? = some o := fun k o hk h1 h2 => (Below.heap_setCell _ _ _ _ h2).trans ((Below.heap_setCell _ _ _ _ h1).trans hk)
 refine ⟨?_, ?_, (h.below.setCell (Nat.le_refl _) _).setCell (show w.heap.size ≤ w.heap.size + 1 by omega) _, no⟩
 · rw [Below.heap_setCell _ _ _ _ (show w.heap.size ≠ w.heap.size + 1 by omega), set_block v h.r4]
   rfl
 · rw [set_block (w := W.setCell ⟨w.heap.size, 0, none⟩ v) _ ((Below.heap_setCell _ _ _ _ (show w.heap.size + 1 ≠ w.heap.size by omega)).trans h.r5)]
   rfl
theorem GB.stop {w : World} {p l d : Nat} {r : Loop} {pre : List Cel} {W : World} (h : GB w p l d r pre W) (r' : Loop) :
   ((W.setCell ⟨w.heap.size, 0, none⟩ (.slice none 0 0)).setCell ⟨w.heap.size + 1, 0, none⟩ (.bool false)).heap[l]? = some (.loop r) ∧ Stp w l d r' (((W.setCell ⟨w.heap.size, 0, none⟩ (.slice none 0 0)).setCell ⟨w.heap.size + 1, 0, none⟩ (.bool false)).putObj l (.loop r')) := by
 obtain ⟨h4, h5, hb, no⟩ := h.lay (.slice none 0 0) false
 have lt := h.lt
 have hl := no l _ h.loop (by omega) (by omega)
 have hd := no d _ h.dfr (by omega) (by omega)
 exact ⟨hl, (World.putObj_heap_other (by omega)).trans h4, (World.putObj_heap_other (by omega)).trans h5, hb.trans (belowK_b (w := w) (Nat.le_refl _) _ l _ _ (by omega) hl rfl rfl), World.putObj_heap_same (Array.getElem?_eq_some_iff.1 hl).1, (World.putObj_heap_other (by omega)).trans hd, by omega, by omega⟩
theorem GB.answer {w : World} {p l d : Nat} {r : Loop} {pre : List Cel} {W : World} (h : GB w p l d r pre W) (v : Value) (b : Bool) {W3 : World} (hW : (W.setCell ⟨w.heap.size, 0, none⟩ v).setCell ⟨w.heap.size + 1, 0, none⟩ (.bool b) = W3) :
   W3.heap[d]? = some (.deferred (some [])) ∧ (W3.putObj d (.deferred none)).heap[w.heap.size]? = some (.cells #[v] 24 (0, 0)) ∧ (W3.putObj d (.deferred none)).heap[w.heap.size + 1]? = some (.cells #[.bool b] 4 (0, 0)) ∧ Below w.heap.size w (W3.putObj d (.deferred none)) ∧
   (∀ u ys, OwnC (p + 1) W u ys → OwnC w.heap.size (W3.putObj d (.deferred none)) u ys) := by
 obtain ⟨h4, h5, hb, no⟩ := h.lay v b
 rw [hW] at h4 h5 hb no
 have lt := h.lt
 have hd := no d _ h.dfr (by omega) (by omega)
 refine ⟨hd, (World.putObj_heap_other (by omega)).trans h4, (World.putObj_heap_other (by omega)).trans h5, hb.trans (belowK_b (w := w) (Nat.le_refl _) _ d _ _ (by omega) hd rfl rfl), fun u ys ho => ?_⟩
 refine own_base (B := p + 1) (ho.keep (fun g cs hc => ?_)) (by omega)
 have k1 : g ≠ w.heap.size := fun e => by rw [e, h.r4] at hc; cases hc
 have k2 : g ≠ w.heap.size + 1 := fun e => by rw [e, h.r5] at hc; cases hc
 have k3 : g ≠ d := fun e => by rw [e, h.dfr] at hc; cases hc
 exact (World.putObj_heap_other k3).trans (no g _ hc k1 k2)
theorem new5 (W : World) (R C : ByteArray) (t : Int) (G : Bool) (V : ByteArray) : ∀ j u, (celCells ⟨R, C, t, G, V⟩)[j]? = some u → (W.alloc (.cells #[.string R, .string C, .int .i64 t, .bool G, .string V] 41)).cell? ((⟨W.heap.size, 0, none⟩ : Addr).add j) = some u := by
 intro j u hj
 have e : (⟨W.heap.size, 0, none⟩ : Addr).add j = ⟨W.heap.size, j, none⟩ := by
   unfold Addr.add; split
   · subst_vars; rfl
   · simp
 rw [e]
 simp only [World.cell?, alloc_at]
 simpa [celCells] using hj
attribute [local go_sem] Oper.semAt_some

def GotOut (w : World) (s : List UInt8) (every : Int) (e : Ending) (w' : World) : Prop := ∃ v r ok, e = .returned (.tuple #[v, .bool ok]) ∧ Got s every r ok ∧ OwnC w.heap.size w' v r ∧ Below w.heap.size w w'
theorem res_two {P : Program} {fn : Func} {p q : Tmp} {ty ty2 : TypeId} {v v2 : Value} (h : fn.results = #[.cell p ty, .cell q ty2]) (tmps : Array Value) (w : World) (g g2 : Nat)
   (hp : tmps.getD p undef = .pointer (some ⟨g, 0, none⟩)) (hq : tmps.getD q undef = .pointer (some ⟨g2, 0, none⟩)) (hv : (loadVar ty ⟨g, 0, none⟩).run P w = .ok v w) (hv2 : (loadVar ty2 ⟨g2, 0, none⟩).run P w = .ok v2 w) :
   (results fn tmps).run P w = .ok (.tuple #[v, v2]) w := by
 have hp' : tmps[p]?.getD undef = .pointer (some ⟨g, 0, none⟩) := by simpa using hp
 have hq' : tmps[q]?.getD undef = .pointer (some ⟨g2, 0, none⟩) := by simpa using hq
 simp [results, h, hp', hq', asAddr, hv, hv2]
theorem load_list {w : World} {g : Nat} {a : Option Addr} {n c : Nat} {fr : Nat × Nat} (h : w.heap[g]? = some (.cells #[.slice a n c] 24 fr)) : (loadVar 24 ⟨g, 0, none⟩).run Tryz.prog w = .ok (.slice a n c) w := by
 have hc : w.cell? ⟨g, 0, none⟩ = some (.slice a n c) := by simp [World.cell?, h]
 simp [loadVar, go_sem, hc]
theorem own_slice {B : Nat} {W : World} {v : Value} {ys : List Cel} (h : OwnC B W v ys) : ∃ ad cap, v = .slice ad ys.length cap := by
 rcases h.2 with ⟨h0, hn⟩ | ⟨g, cap, cur, h1, _⟩
 · exact ⟨none, 0, by rw [h0, hn]⟩
 · exact ⟨_, _, h1⟩
theorem own_nil (B : Nat) (W : World) : OwnC B W (.slice none 0 0) [] := World.ownsRow_nil _ _ _ _
theorem cellsIn_at (n : Nat) (T : ByteArray) (w : World) :
   CallsIn Fence.wide n Tryz.prog 157 #[.string T] w fun e' w' => e' = .returned (.func (.func 161) #[] #[.pointer (some ⟨w.heap.size, 0, none⟩)]) ∧ w' = w.alloc (.cells #[.string T] 9) := by
 refine callsIn_wide.2 ?_
 go_enter Tryz.func157, Tryz.ntmps157
 go_wp2
 go_ret
 exact ⟨rfl, rfl⟩
theorem two_new (w : World) : ((w.alloc (.cells #[.slice none 0 0] 24)).alloc (.cells #[.bool false] 4)).heap[w.heap.size]? = some (.cells #[.slice none 0 0] 24 (0, 0)) ∧ ((w.alloc (.cells #[.slice none 0 0] 24)).alloc (.cells #[.bool false] 4)).heap[w.heap.size + 1]? = some (.cells #[.bool false] 4 (0, 0)) := by
 refine ⟨(alloc_old _ _ (by simp)).trans (alloc_at w _), ?_⟩
 have := alloc_at (w.alloc (.cells #[.slice none 0 0] 24)) (.cells #[.bool false] 4)
 simpa using this
theorem gb_new {w w1 : World} (hb : Below ((w.alloc (.cells #[.slice none 0 0] 24)).alloc (.cells #[.bool false] 4)).heap.size ((w.alloc (.cells #[.slice none 0 0] 24)).alloc (.cells #[.bool false] 4)) w1) (T : ByteArray) (r : Loop) :
   GB w w1.heap.size (w1.heap.size + 1 + 1 + 1) (w1.heap.size + 1 + 1) r [] ((((w1.alloc (.cells #[.slice none 0 0] 24)).alloc (.cells #[.string T] 9)).alloc (.deferred (some []))).alloc (.loop r)) := by
 obtain ⟨n4, n5⟩ := two_new w
 have hs := hb.size
 simp only [World.size_alloc] at hs
 have b1 : Below w.heap.size w w1 := (two_below0 w _ _).trans (hb.mono (by simp; omega))
 have k4 := (hb.block _ (Array.getElem?_eq_some_iff.1 n4).1).trans n4
 have k5 := (hb.block _ (Array.getElem?_eq_some_iff.1 n5).1).trans n5
 have b2 : Below w1.heap.size w1 ((((w1.alloc (.cells #[.slice none 0 0] 24)).alloc (.cells #[.string T] 9)).alloc (.deferred (some []))).alloc (.loop r)) := (two_below0 w1 _ _).trans ((two_below0 _ _ _).mono (by simp; omega))
 refine ⟨(b2.block _ (by omega)).trans k4, (b2.block _ (by omega)).trans k5, ⟨.slice none 0 0, ?_, own_nil _ _⟩, ⟨by omega, by omega, rfl⟩, b1.trans (b2.mono b1.size), ?_, ?_, by simp⟩
 · rw [alloc_old _ _ (by simp; omega), alloc_old _ _ (by simp; omega), alloc_old _ _ (by simp)]
   exact alloc_at w1 _
 · have := alloc_at (((w1.alloc (.cells #[.slice none 0 0] 24)).alloc (.cells #[.string T] 9)).alloc (.deferred (some []))) (.loop r)
   simpa using this
 · rw [alloc_old _ _ (by simp)]
   have := alloc_at ((w1.alloc (.cells #[.slice none 0 0] 24)).alloc (.cells #[.string T] 9)) (.deferred (some []))
   simpa using this

set_option maxRecDepth 100000 in
set_option maxHeartbeats 4000000 in
theorem implGetBlock_in (s : ByteArray) (every : Int) (hs : s.size ≤ 1048576) (q n : Nat) (hq : getFix s.data.toList ((s.data.toList.length : Int) - 2) 2 = (q : Int)) (hn : n + 2 * (q + 1) = s.size) (w : World) :
   CallsIn Fence.wide 5 Tryz.prog 138 #[.string s, .int .i64 every] w (GotOut w s.data.toList every) := by
 have hll : s.data.toList.length = s.size := by simp
 rw [hll] at hq
 have HQ := Lib.hid hq
 have HLL := Lib.hid hll
 clear hq hll
 refine callsIn_of_wp_marks Tryz.func138 rfl trivial ?_ rfl
 simp only [Tryz.ntmps138, List.size_toArray, List.length_cons, List.length_nil, Nat.reduceAdd, Nat.reduceSub, Array.replicate_succ, Array.replicate_zero, List.push_toArray, List.append_toArray, List.nil_append, List.cons_append]
 gi_wp2_with fail
 refine ⟨trivial, ?_⟩
 refine (callsIn_wide.2 (implGetFix s ((s.size : Int) - 2) 2 _ (by unfold maxLen; omega))).mono ?_
 rw [HQ.out]
 rintro e w1 ⟨rfl, hb1⟩
 have B1 := Lib.hid hb1
 clear hb1
 have a1 : ¬ (q : Int) < 0 := by omega
 have a2 : ¬ (n : Int) < 0 := by omega
 have a3 : (s.size : Int) - 2 * ((q : Int) + 1) = (n : Int) := by omega
 have a4 : (n : Int) ≤ (s.size : Int) := by omega
 obtain ⟨T, hT⟩ : ∃ T, s.extract 0 n = T := ⟨_, rfl⟩
 have HTS := Lib.hid (show T.size ≤ 1048576 by rw [← hT, ByteArray.size_extract]; omega)
 have HTL := Lib.hid (show T.data.toList = s.data.toList.take n by rw [← hT]; have := part_text s 0 n; rwa [Nat.zero_add, List.drop_zero] at this)
 gi_wp2_with fail
 refine ⟨trivial, ?_⟩
 clear hT
 refine (cellsIn_at _ T _).mono ?_
 rintro e w' ⟨rfl, rfl⟩
 gi_wp2_with fail
 refine range_at rfl (by decide) (gf := 161) (lb := #[.pointer (some ⟨w1.heap.size + 1, 0, none⟩)]) rfl trivial (enters_of Tryz.func161 (by kernel_rfl) rfl) ?_
 intro r hrf hrs hrp hrt hrps hra hrb
 simp only [World.size_alloc]
 have G0 := Lib.hid (gb_new B1.out T r)
 have hb3 := (two_new w).1
 refine (cells_in 4 (w1.heap.size + 1 + 1 + 1) (w1.heap.size + 1) T HTS.out (GB w w1.heap.size (w1.heap.size + 1 + 1 + 1) (w1.heap.size + 1 + 1) r) (fun pre W => Stp w (w1.heap.size + 1 + 1 + 1) (w1.heap.size + 1 + 1) { r with state := .done, pending := some .ret } W ∧ 50 < pre.length) ?round _ (gb_abides (by have := B1.out.size; simp at this ⊢; omega)) ?text G0.out).mono ?done
 case text =>
   refine (blk1 (T := 9) ?_).1
   rw [alloc_old _ _ (by simp), alloc_old _ _ (by simp)]
   have := alloc_at (w1.alloc (.cells #[.slice none 0 0] 24)) (.cells #[.string T] 9)
   simpa using this
 case round =>
   rintro pre ⟨R, C, t, G, V⟩ W gb hlen
   refine yield_of (r := r) hrps hra hrb hrt gb.loop hrs rfl hrf ?_
   have HRR := Lib.hid (And.intro hrs hrp)
   clear hrps hra hrb hrt hrs hrp
   unfold celVal
   have GW := Lib.hid gb
   clear gb
   gi_wp2
   have G1 := Lib.hid (GW.out.under (one_below W (.cells #[.string R, .string C, .int .i64 t, .bool G, .string V] 41)))
   refine ⟨G1.out.loop, ?_⟩
   have G2 := Lib.hid (G1.out.turn { r with state := .busy })
   have A2 := Lib.hid (show ((W.alloc (.cells #[.string R, .string C, .int .i64 t, .bool G, .string V] 41)).putObj (w1.heap.size + 1 + 1 + 1) (.loop { r with state := .busy })).heap[W.heap.size]? = some (.cells #[.string R, .string C, .int .i64 t, .bool G, .string V] 41 (0, 0)) from (World.putObj_heap_other (by have := (Array.getElem?_eq_some_iff.1 GW.out.loop).1; omega)).trans (alloc_at W _))
   have KT2 := Lib.hid ((keepT_below (one_below W (.cells #[.string R, .string C, .int .i64 t, .bool G, .string V] 41))).trans (keepT_turn G1.out.loop { r with state := .busy }))
   obtain ⟨W2, hW2⟩ : ∃ W2, (W.alloc (.cells #[.string R, .string C, .int .i64 t, .bool G, .string V] 41)).putObj (w1.heap.size + 1 + 1 + 1) (.loop { r with state := .busy }) = W2 := ⟨_, rfl⟩
   rw [hW2] at G2 A2 KT2
   rw [hW2]
   obtain ⟨AA, hAA⟩ : ∃ A, W.heap.size = A := ⟨_, rfl⟩
   rw [hAA] at A2
   rw [hAA]
   clear hW2 hAA
   obtain ⟨v, hbx, hown⟩ := G2.out.box
   obtain ⟨ad, cap, rfl⟩ := own_slice hown
   obtain ⟨b0, b1⟩ := blk1 hbx
   obtain ⟨x5, _⟩ := blk5 A2.out
   unfold One5 at x5
   obtain ⟨c0, c1, c2, c3, c4⟩ := x5
   have HBX := Lib.hid hbx
   have HOW := Lib.hid hown
   have hfew := G2.out.few
   clear hbx hown
   by_cases h50 : pre.length = 50
   · have e50 : ((pre.length : Int) == 50) = true := by simp; omega
     obtain ⟨y0, y1⟩ := blk1 G2.out.r4
     obtain ⟨z0, z1⟩ := blk1 G2.out.r5
     have ST := Lib.hid (G2.out.stop { r with state := .done, pending := some .ret })
     gi_wp2
     exact And.intro ST.out.1 (And.intro ST.out.2 (by simp; omega))
   · have e50 : ((pre.length : Int) == 50) = false := beq_eq_false_iff_ne.2 (by omega)
     obtain ⟨ti, hti, hz0, hz1, hz2⟩ := info_parts infoCel
     have N5 := Lib.hid (new5 W2 R C t G V)
     have G3 := Lib.hid (G2.out.under (one_below W2 (.cells #[.string R, .string C, .int .i64 t, .bool G, .string V] 41)))
     have B3 := Lib.hid ((one_below W2 (.cells #[.string R, .string C, .int .i64 t, .bool G, .string V] 41)).block _ (Array.getElem?_eq_some_iff.1 HBX.out).1 |>.trans HBX.out)
     have O3 := Lib.hid (HOW.out.new (.cells #[.string R, .string C, .int .i64 t, .bool G, .string V] 41))
     have hpl : pre.length < 50 := by omega
     have hps : w1.heap.size + 1 ≤ W2.heap.size := by have := (Array.getElem?_eq_some_iff.1 HBX.out).1; omega
     gi_wp2_with (gi_at_builtin; refine wpListIn_append_own _ rfl _ _ 24 rfl (w1.heap.size + 1) 41 ti (.agg #[.string ⟨#[]⟩, .string ⟨#[]⟩, .int .i64 0, .bool false, .string ⟨#[]⟩]) 5 64 Tryz.underlying24 hti hz0 hz1 hz2 rfl (by decide) _ _ _ rfl O3.out ⟨W2.heap.size, 0, none⟩ 1 1 (celCells ⟨R, C, t, G, V⟩) rfl rfl N5.out (by intro u hu; simp only [celCells, List.mem_cons, List.not_mem_nil, or_false] at hu; rcases hu with rfl | rfl | rfl | rfl | rfl <;> rfl) (by unfold maxLen; omega) (by omega) (by simp; omega) ?_; intro v' w3 hown' hgrow _; have O4 := Lib.hid (show OwnC (w1.heap.size + 1) w3 v' (pre ++ [⟨R, C, t, G, V⟩]) by unfold OwnC; rw [List.length_append, List.flatMap_append]; simpa using hown'); have GR := Lib.hid hgrow; have B4 := Lib.hid ((hgrow.block _ (Array.getElem?_eq_some_iff.1 B3.out).1 (fun e => O3.out.apart B3.out (fun _ _ h => by cases h) e.symm)).trans B3.out); clear hown' hgrow; obtain ⟨ad4, cap4, rfl⟩ := own_slice O4.out; obtain ⟨m0, m1⟩ := blk1 B4.out)
     have G4 := Lib.hid (G3.out.put B3.out GR.out O3.out O4.out hpl)
     have hlen1 : (pre ++ [(⟨R, C, t, G, V⟩ : Cel)]).length = pre.length + 1 := by simp
     rw [hlen1] at G4
     have hr' : ({ r with state := .ready, pending := none } : Loop) = r := by
       obtain ⟨h1, h2⟩ := HRR.out
       cases r
       simp only at h1 h2
       rw [h1, h2]
     refine And.intro G4.out.loop (And.intro ?_ ((((KT2.out.trans (keepT_below (one_below W2 _))).trans (keepT_grow O3.out GR.out)).trans (keepT_set B4.out _)).trans (keepT_turn G4.out.loop _)))
     have h := G4.out.turn { r with state := .ready, pending := none }
     rw [hr'] at h ⊢
     exact h
 case done =>
   have hs0 : s.data.toList ≠ [] := by intro e; have := HLL.out; rw [e] at this; simp at this; omega
   have GOT : ∀ ys, ((∃ key a, Rd (s.data.toList.take n) ys key a ∧ 50 < ys.length) ∨ Ended (s.data.toList.take n) ys) → (putBlock ys every = s.data.toList → Got s.data.toList every ys true) ∧ (putBlock ys every ≠ s.data.toList → Got s.data.toList every [] false) := fun ys h => got_of (q := q) (n := n) (by rw [HLL.out]; exact HQ.out) (by rw [HLL.out]; exact hn) h
   have HGT := Lib.hid GOT
   clear GOT
   clear hrps hra hrb hrt hrs hrp
   rintro e W ⟨⟨v, rfl⟩, (⟨ys, hend, gb⟩ | ⟨pre, ⟨key, a, hrd⟩, st, h50⟩)⟩
   · refine ⟨⟨_, rfl⟩, .inl ⟨gb.loop, ?_⟩⟩
     have GW := Lib.hid (gb.turn { r with state := .exhausted })
     clear gb
     obtain ⟨W5, hW5⟩ : ∃ W5, W.putObj (w1.heap.size + 1 + 1 + 1) (.loop { r with state := .exhausted }) = W5 := ⟨_, rfl⟩
     rw [hW5] at GW
     rw [hW5]
     clear hW5
     rw [HTL.out] at hend
     have HEN := Lib.hid hend
     have HFT := Lib.hid (show Fit ys by obtain ⟨k, a', h1, _⟩ := hend; exact rd_fit h1 (by rw [List.length_take, HLL.out]; omega))
     clear hend
     obtain ⟨v, hbx, hown⟩ := GW.out.box
     obtain ⟨ad, cap, rfl⟩ := own_slice hown
     obtain ⟨b0, b1⟩ := blk1 hbx
     have hfew := GW.out.few
     have HOW := Lib.hid hown
     have HBX := Lib.hid hbx
     clear hown hbx
     obtain ⟨A, hA, _⟩ := text_of (putBlock ys every)
     have HAT := Lib.hid (as_text hA)
     have HA := Lib.hid hA
     clear hA
     gi_wp2_with fail
     refine ⟨trivial, ?_⟩
     refine (callsIn_wide.2 (implPutBlock ad ys.length cap ys every (by omega) HFT.out _ HOW.out.row)).mono ?_
     rintro e w6 ⟨rfl, hb6⟩
     rw [HAT.out]
     have G6 := Lib.hid (GW.out.under hb6)
     have O6 := Lib.hid (HOW.out.below hb6)
     have bx6 := (hb6.block _ (Array.getElem?_eq_some_iff.1 HBX.out).1).trans HBX.out
     obtain ⟨d0, d1⟩ := blk1 bx6
     obtain ⟨y0, y1⟩ := blk1 G6.out.r4
     obtain ⟨z0, z1⟩ := blk1 G6.out.r5
     clear hb6 bx6 b0 b1
     by_cases heq : putBlock ys every = s.data.toList
     · have hAs : A = s := bytes_ext (by rw [HA.out, heq])
       have hsame : (A.toList == s.toList) = true := by rw [hAs]; exact same_beq s
       clear hAs
       have HG := Lib.hid ((HGT.out ys (.inr HEN.out)).1 heq)
       gi_wp2
       have AN := Lib.hid (G6.out.answer (.slice ad ys.length cap) true rfl)
       refine ⟨by simp, .inl ⟨_, _, rfl, run_takeDeferred AN.out.1, ?_⟩⟩
       exact ⟨_, res_two Tryz.results138 _ _ w.heap.size (w.heap.size + 1) rfl rfl (load_list AN.out.2.1) (load_bool AN.out.2.2.1), _, ys, true, rfl, HG.out, AN.out.2.2.2.2 _ _ O6.out, AN.out.2.2.2.1⟩
     · have hoth := other_beq (A := A) (B := s) (by rw [HA.out]; exact heq)
       have HG := Lib.hid ((HGT.out ys (.inr HEN.out)).2 heq)
       gi_wp2
       have AN := Lib.hid (G6.out.answer (.slice none 0 0) false rfl)
       refine ⟨by simp, .inl ⟨_, _, rfl, run_takeDeferred AN.out.1, ?_⟩⟩
       exact ⟨_, res_two Tryz.results138 _ _ w.heap.size (w.heap.size + 1) rfl rfl (load_list AN.out.2.1) (load_bool AN.out.2.2.1), _, [], false, rfl, HG.out, own_nil _ _, AN.out.2.2.2.1⟩
   · refine ⟨⟨_, rfl⟩, .inr ⟨st.loop, ?_⟩⟩
     rw [HTL.out] at hrd
     have hne : putBlock pre every ≠ s.data.toList := by rw [putBlock_no (block_no1 h50)]; exact Ne.symm hs0
     have HG := Lib.hid ((HGT.out pre (.inl ⟨key, a, hrd, h50⟩)).2 hne)
     have lt := st.lt
     obtain ⟨W5, hW5⟩ : ∃ W5, W.putObj (w1.heap.size + 1 + 1 + 1) (.loop { r with state := .exhausted, pending := some .ret }) = W5 := ⟨_, rfl⟩
     have no : ∀ (k : Nat) (o : Obj), W.heap[k]? = some o → k ≠ w1.heap.size + 1 + 1 + 1 → W5.heap[k]? = some o := fun k o hk hne => by rw [← hW5]; exact (World.putObj_heap_other hne).trans hk
     have k4 := no _ _ st.r4 (by omega)
     have k5 := no _ _ st.r5 (by omega)
     have kd := no _ _ st.dfr (by omega)
     have kb : Below w.heap.size w W5 := by rw [← hW5]; exact st.below.trans (belowK_b (w := w) (Nat.le_refl _) W _ _ _ (by omega) st.loop rfl rfl)
     rw [hW5]
     clear hW5 no
     have q4 := (World.putObj_heap_other (w := W5) (r := w1.heap.size + 1 + 1) (o := .deferred none) (k := w.heap.size) (by omega)).trans k4
     have q5 := (World.putObj_heap_other (w := W5) (r := w1.heap.size + 1 + 1) (o := .deferred none) (k := w.heap.size + 1) (by omega)).trans k5
     refine ⟨by simp, .inl ⟨_, _, rfl, run_takeDeferred kd, ?_⟩⟩
     exact ⟨_, res_two Tryz.results138 _ _ w.heap.size (w.heap.size + 1) rfl rfl (load_list q4) (load_bool q5), _, [], false, rfl, HG.out, own_nil _ _, kb.trans (belowK_b (w := w) (Nat.le_refl _) W5 _ _ _ (by omega) kd rfl rfl)⟩
theorem getFix_bd2 (l : List UInt8) (a : Int) : -1 ≤ getFix l a 2 ∧ getFix l a 2 ≤ 65535 := by
 unfold getFix
 split
 · have h1 := fixVal_lt ((l.drop a.toNat).take (2 : Int).toNat)
   have h2 : ((l.drop a.toNat).take (2 : Int).toNat).length ≤ 2 := List.length_take_le _ _
   have h3 : 2 ^ (8 * ((l.drop a.toNat).take (2 : Int).toNat).length) ≤ 2 ^ 16 := Nat.pow_le_pow_right (by omega) (by omega)
   omega
 · omega

set_option maxRecDepth 100000 in
set_option maxHeartbeats 1000000 in
theorem implGetBlock (s : ByteArray) (every : Int) (hs : s.size ≤ 1048576) (w : World) :
   Calls Tryz.prog 138 #[.string s, .int .i64 every] w (GotOut w s.data.toList every) := by
 have hll : s.data.toList.length = s.size := by simp
 obtain ⟨z, hz⟩ : ∃ z, getFix s.data.toList ((s.data.toList.length : Int) - 2) 2 = z := ⟨_, rfl⟩
 have hzb := getFix_bd2 s.data.toList ((s.data.toList.length : Int) - 2)
 rw [hz] at hzb
 obtain ⟨z1, z2⟩ := hzb
 by_cases hno : z < 0 ∨ (s.size : Int) - 2 * (z + 1) < 0
 · have HG := Lib.hid (show Got s.data.toList every [] false from got_no (by rw [hz, hll]; exact hno))
   rw [hll] at hz
   have HZ := Lib.hid hz
   have B0 := Lib.hid (two_below0 w (.cells #[.slice none 0 0] 24) (.cells #[.bool false] 4))
   have TN := Lib.hid (two_new w)
   clear hz hll
   by_cases h0 : z < 0
   · obtain rfl : z = -1 := by omega
     clear hno z1 z2 h0
     go_enter Tryz.func138, Tryz.ntmps138
     go_wp2_with fail
     refine (implGetFix s ((s.size : Int) - 2) 2 _ (by unfold maxLen; omega)).mono ?_
     rw [HZ.out]
     rintro e w1 ⟨rfl, hb1⟩
     have k4 := (hb1.block _ (Array.getElem?_eq_some_iff.1 TN.out.1).1).trans TN.out.1
     have k5 := (hb1.block _ (Array.getElem?_eq_some_iff.1 TN.out.2).1).trans TN.out.2
     have B1 := Lib.hid (B0.out.trans (hb1.mono B0.out.size))
     have K4 := Lib.hid k4
     have K5 := Lib.hid k5
     obtain ⟨y0, y1⟩ := blk1 k4
     obtain ⟨x0, x1⟩ := blk1 k5
     clear hb1 k4 k5
     go_wp2
     refine bodyPost_ret (v := .tuple #[.slice none 0 0, .bool false]) (res_two Tryz.results138 _ _ w.heap.size (w.heap.size + 1) rfl rfl (load_list (fr := (0, 0)) ?_) (load_bool (fr := (0, 0)) ?_)) rfl ⟨_, [], false, rfl, HG.out, own_nil _ _, (B1.out.setCell (Nat.le_refl _) _).setCell (show w.heap.size ≤ w.heap.size + 1 by omega) _⟩
     · rw [Below.heap_setCell _ _ _ _ (show w.heap.size ≠ w.heap.size + 1 by omega), set_block _ K4.out]
       rfl
     · rw [set_block (w := w1.setCell ⟨w.heap.size, 0, none⟩ (.slice none 0 0)) _ ((Below.heap_setCell _ _ _ _ (show w.heap.size + 1 ≠ w.heap.size by omega)).trans K5.out)]
       rfl
   · obtain ⟨q, rfl⟩ := Int.eq_ofNat_of_zero_le (by omega : 0 ≤ z)
     have g1 : ¬ (q : Int) < 0 := by omega
     have g2 : (s.size : Int) - 2 * ((q : Int) + 1) < 0 := by omega
     clear hno h0
     go_enter Tryz.func138, Tryz.ntmps138
     go_wp2_with fail
     refine (implGetFix s ((s.size : Int) - 2) 2 _ (by unfold maxLen; omega)).mono ?_
     rw [HZ.out]
     rintro e w1 ⟨rfl, hb1⟩
     have k4 := (hb1.block _ (Array.getElem?_eq_some_iff.1 TN.out.1).1).trans TN.out.1
     have k5 := (hb1.block _ (Array.getElem?_eq_some_iff.1 TN.out.2).1).trans TN.out.2
     have B1 := Lib.hid (B0.out.trans (hb1.mono B0.out.size))
     have K4 := Lib.hid k4
     have K5 := Lib.hid k5
     obtain ⟨y0, y1⟩ := blk1 k4
     obtain ⟨x0, x1⟩ := blk1 k5
     clear hb1 k4 k5
     go_wp2
     refine bodyPost_ret (v := .tuple #[.slice none 0 0, .bool false]) (res_two Tryz.results138 _ _ w.heap.size (w.heap.size + 1) rfl rfl (load_list (fr := (0, 0)) ?_) (load_bool (fr := (0, 0)) ?_)) rfl ⟨_, [], false, rfl, HG.out, own_nil _ _, (B1.out.setCell (Nat.le_refl _) _).setCell (show w.heap.size ≤ w.heap.size + 1 by omega) _⟩
     · rw [Below.heap_setCell _ _ _ _ (show w.heap.size ≠ w.heap.size + 1 by omega), set_block _ K4.out]
       rfl
     · rw [set_block (w := w1.setCell ⟨w.heap.size, 0, none⟩ (.slice none 0 0)) _ ((Below.heap_setCell _ _ _ _ (show w.heap.size + 1 ≠ w.heap.size by omega)).trans K5.out)]
       rfl
 · obtain ⟨q, rfl⟩ := Int.eq_ofNat_of_zero_le (by omega : 0 ≤ z)
   exact callsIn_wide.1 (implGetBlock_in s every hs q (s.size - 2 * (q + 1)) hz (by omega) w)
end Go.Proofs.YtkomnnijnggbpaaGreatDoor
/- The model's GetBlock. -/
namespace Go.Proofs.YtkomnnijnggbpaaGreatDoor
open Go.RowKit
set_option linter.unusedVariables false

def At3 (l : List UInt8) (ys : List Cel) (L : List UInt8) (i : Int) : Prop := (∃ a : Nat, i = a ∧ Rd l ys L a) ∨ (i = -1 ∧ Ended l ys)

set_option maxRecDepth 100000 in
set_option maxHeartbeats 2000000 in
theorem specGetBlock_in (s : ByteArray) (every : Int) (hs : s.size ≤ 1048576) (q n : Nat) (hq : getFix s.data.toList ((s.data.toList.length : Int) - 2) 2 = (q : Int)) (hn : n + 2 * (q + 1) = s.size) (w : World) :
   Calls Tryz.prog 114 #[.string s, .int .i64 every] w (GotOut w s.data.toList every) := by
 have hll : s.data.toList.length = s.size := by simp
 rw [hll] at hq
 have HQ := Lib.hid hq
 have HLL := Lib.hid hll
 clear hq hll
 have O0 := Lib.hid (show OwnC w.heap.size (w.alloc (.cells #[] 41)) (.slice (some ⟨w.heap.size, 0, none⟩) 0 0) [] from World.ownsRow_made w #[] 0 (Nat.le_refl _) (by unfold maxLen; omega) (by simp))
 have B0 := Lib.hid (one_below w (.cells #[] 41))
 obtain ⟨T, hT⟩ : ∃ T, s.extract 0 n = T := ⟨_, rfl⟩
 have HTS := Lib.hid (show T.size = n by rw [← hT, ByteArray.size_extract]; omega)
 have HTL := Lib.hid (show T.data.toList = s.data.toList.take n by rw [← hT]; have := part_text s 0 n; rwa [Nat.zero_add, List.drop_zero] at this)
 have HTT := Lib.hid (show T.data.toList.length = n by have := HTS.out; simpa using this)
 have HT := Lib.hid hT
 clear hT
 go_enter Tryz.func114, Tryz.ntmps114
 go_wp2_with fail
 refine (specGetFix s ((s.size : Int) - 2) 2 _ (by unfold maxLen; omega) (by omega)).mono ?_
 rw [HQ.out]
 rintro e w1 ⟨rfl, hb1⟩
 have O1 := Lib.hid (O0.out.below hb1)
 have B1 := Lib.hid (B0.out.trans (hb1.mono B0.out.size))
 clear hb1
 have a1 : ¬ (q : Int) < 0 := by omega
 have a2 : ¬ (n : Int) < 0 := by omega
 have a3 : (s.size : Int) - 2 - 2 * (q : Int) = (n : Int) := by omega
 have a4 : (n : Int) ≤ (s.size : Int) := by omega
 go_wp2_with fail
 go_loopw [6, 9, 10] (fun v lv iv wr => ∃ (ys : List Cel) (L : ByteArray) (i : Int), lv = .string L ∧ iv = .int .i64 i ∧ -1 ≤ i ∧ i ≤ n ∧ ys.length ≤ 51 ∧ Hid (OwnC w.heap.size wr v ys ∧ Below w.heap.size w wr ∧ At3 T.data.toList ys L.data.toList i))
   (fun _ _ iv _ => match iv with | .int _ i => (if i < 0 then 0 else n + 1 - i.toNat) | _ => 0)
 case atStart => exact ⟨[], ⟨#[]⟩, 0, rfl, rfl, by omega, by omega, by simp, ⟨O1.out, B1.out, .inl ⟨0, rfl, Rd.nil⟩⟩⟩
 case round =>
   obtain ⟨ys, L, i, rfl, rfl, hi1, hi2, hyl, HX⟩ := hrel
   obtain ⟨ad, cap, hv⟩ := own_slice HX.out.1
   rename_i v0 _
   subst hv
   by_cases hgo : 0 ≤ i ∧ i < n ∧ ys.length ≤ 50
   · obtain ⟨hg1, hg2, hg3⟩ := hgo
     obtain ⟨a, rfl⟩ := Int.eq_ofNat_of_zero_le hg1
     have c1 : ¬ (a : Int) < 0 := by omega
     have c2 : (a : Int) < (n : Int) := by omega
     have c3 : (ys.length : Int) ≤ 50 := by omega
     have HRD := Lib.hid (show Rd T.data.toList ys L.data.toList a by
       rcases HX.out.2.2 with ⟨a', e, h⟩ | ⟨e, _⟩
       · obtain rfl : a = a' := by omega
         exact h
       · omega)
     have HLA := Lib.hid (show L.size ≤ a by have h1 := (rd_len HRD.out).1; have h2 : L.data.toList.length = L.size := by simp
                                             omega)
     have hT := HT.out
     go_wp2_with fail
     clear hT
     refine (specl05Cell T a L (by have := HTS.out; omega) HLA.out _).mono ?_
     rintro e w2 ⟨R, C, t, G, V, Kk, nx, rfl, hb2, hst⟩
     have O2 := Lib.hid (HX.out.1.below hb2)
     have B2 := Lib.hid (HX.out.2.1.trans (hb2.mono HX.out.2.1.size))
     have HST := Lib.hid hst
     have hnx : nx = -1 ∨ ∃ a' : Nat, nx = a' ∧ a < a' ∧ a' ≤ n := by
       rcases hst with ⟨h, _⟩ | ⟨a', h, st⟩
       · exact .inl h
       · have := step_len st (rd_len HRD.out).1
         have := HTT.out
         exact .inr ⟨a', h, by omega, by omega⟩
     clear hb2 hst HX
     have N5 := Lib.hid (new5 w2 R C t G V)
     have O3 := Lib.hid (O2.out.new (.cells #[.string R, .string C, .int .i64 t, .bool G, .string V] 41))
     have B3 := Lib.hid (B2.out.trans ((one_below w2 (.cells #[.string R, .string C, .int .i64 t, .bool G, .string V] 41)).mono B2.out.size))
     rcases hnx with rfl | ⟨a', rfl, hlt, hle⟩
     · have HEN := Lib.hid (show Ended T.data.toList ys by
         rcases HST.out with ⟨_, h⟩ | ⟨a', h, _⟩
         · exact ⟨_, _, HRD.out, .inl h⟩
         · omega)
       go_wp2_with fail
       go_roundw
       case rel => exact ⟨ys, Kk, -1, rfl, rfl, by omega, by omega, hyl, ⟨O3.out, B3.out, .inr ⟨rfl, HEN.out⟩⟩⟩
       case measure =>
         show (if (-1 : Int) < 0 then 0 else n + 1 - (-1 : Int).toNat) < (if (a : Int) < 0 then 0 else n + 1 - (a : Int).toNat)
         rw [if_pos (by omega), if_neg (by omega)]
         omega
     · have d1 : ¬ (a' : Int) < 0 := by omega
       have d2 : (0 : Int) ≤ (a' : Int) := by omega
       have HR2 := Lib.hid (show Rd T.data.toList (ys ++ [⟨R, C, t, G, V⟩]) Kk.data.toList a' by
         rcases HST.out with ⟨h, _⟩ | ⟨a2, h, st⟩
         · omega
         · obtain rfl : a' = a2 := by omega
           exact HRD.out.snoc st)
       have x5 := one5_new w2 (.string R) (.string C) (.int .i64 t) (.bool G) (.string V) 41
       unfold One5 at x5
       obtain ⟨b0, b1, b2, b3, b4⟩ := x5
       have n5 := new5 (w2.alloc (.cells #[.string R, .string C, .int .i64 t, .bool G, .string V] 41)) R C t G V
       simp only [World.size_alloc] at n5
       have N6 := Lib.hid n5
       have O4 := Lib.hid (O3.out.new (.cells #[.string R, .string C, .int .i64 t, .bool G, .string V] 41))
       have B4 := Lib.hid (B3.out.trans ((one_below (w2.alloc (.cells #[.string R, .string C, .int .i64 t, .bool G, .string V] 41)) (.cells #[.string R, .string C, .int .i64 t, .bool G, .string V] 41)).mono B3.out.size))
       clear n5 HST
       go_wp2_with (at_builtin; refine wpList_plain rfl (fun K hK => ?_); refine op_pushC [⟨R, C, t, G, V⟩] _ _ rfl rfl rfl rfl N6.out O4.out B4.out.size (by simp; omega) ?_; intro v7 w7 o7 gr7; refine hK _ _ ?_; clear hK K; have L7 := Lib.hid (B4.out.grown gr7 B4.out.size (fun q e => (O4.out.lt e).1)); have O7 := Lib.hid o7; clear o7 gr7)
       go_roundw
       case rel => exact ⟨ys ++ [⟨R, C, t, G, V⟩], Kk, a', rfl, rfl, by omega, by omega, by simp; omega, ⟨O7.out, L7.out, .inl ⟨a', rfl, HR2.out⟩⟩⟩
       case measure =>
         show (if (a' : Int) < 0 then 0 else n + 1 - (a' : Int).toNat) < (if (a : Int) < 0 then 0 else n + 1 - (a : Int).toNat)
         rw [if_neg (by omega), if_neg (by omega)]
         omega
   · have hr : (∃ key a, Rd T.data.toList ys key a ∧ 50 < ys.length) ∨ Ended T.data.toList ys := by
       rcases HX.out.2.2 with ⟨a, rfl, h⟩ | ⟨_, h⟩
       · by_cases h50 : 50 < ys.length
         · exact .inl ⟨_, _, h, h50⟩
         · right
           have hl := (rd_len h).2.1
           rw [HTT.out] at hl
           have ha : a = n := by omega
           refine ⟨_, _, h, .inl (step_no ?_)⟩
           rw [ha]
           have := rd_end T.data.toList
           rwa [HTT.out] at this
       · exact .inr h
     have HFT := Lib.hid (show Fit ys by
       rcases hr with ⟨_, _, h, _⟩ | ⟨_, _, h, _⟩ <;> exact rd_fit h (by rw [HTT.out]; omega))
     rw [HTL.out] at hr
     have HG := Lib.hid (got_of (s := s.data.toList) (every := every) (q := q) (n := n) (by rw [HLL.out]; exact HQ.out) (by rw [HLL.out]; exact hn) hr)
     clear hr
     have O2 := Lib.hid HX.out.1
     have B2 := Lib.hid HX.out.2.1
     clear HX
     obtain ⟨A, hA, _⟩ := text_of (putBlock ys every)
     have HAT := Lib.hid (as_text hA)
     have HA := Lib.hid hA
     clear hA
     rcases (show i < 0 ∨ (0 ≤ i ∧ (n : Int) ≤ i) ∨ (0 ≤ i ∧ i < n ∧ 50 < ys.length) by omega) with hc | ⟨hc1, hc2⟩ | ⟨hc1, hc2, hc3⟩
     · have hc3 : ¬ 0 ≤ i := by omega
       go_wp2_with fail
       refine (specPutBlock ad ys.length cap ys every (by omega) HFT.out _ O2.out.row).mono ?_
       rintro e w6 ⟨rfl, hb6⟩
       rw [HAT.out]
       have O6 := Lib.hid (O2.out.below hb6)
       have B6 := Lib.hid (B2.out.trans (hb6.mono B2.out.size))
       clear hb6
       by_cases heq : putBlock ys every = s.data.toList
       · have hAs : A = s := bytes_ext (by rw [HA.out, heq])
         have hsame : (A.toList == s.toList) = true := by rw [hAs]; exact same_beq s
         clear hAs
         have HGG := Lib.hid (HG.out.1 heq)
         go_wp2
         go_ret2
         exact ⟨_, ys, true, rfl, HGG.out, O6.out, B6.out⟩
       · have hoth := other_beq (A := A) (B := s) (by rw [HA.out]; exact heq)
         have HGG := Lib.hid (HG.out.2 heq)
         have O7 := Lib.hid (show OwnC w6.heap.size (w6.alloc (.cells #[] 41)) (.slice (some ⟨w6.heap.size, 0, none⟩) 0 0) [] from World.ownsRow_made w6 #[] 0 (Nat.le_refl _) (by unfold maxLen; omega) (by simp))
         have B7 := Lib.hid (B6.out.trans ((one_below w6 (.cells #[] 41)).mono B6.out.size))
         go_wp2
         go_ret2
         exact ⟨_, [], false, rfl, HGG.out, own_base O7.out B6.out.size, B7.out⟩
     · have hc3 : ¬ i < 0 := by omega
       have hc4 : ¬ i < (n : Int) := by omega
       go_wp2_with fail
       refine (specPutBlock ad ys.length cap ys every (by omega) HFT.out _ O2.out.row).mono ?_
       rintro e w6 ⟨rfl, hb6⟩
       rw [HAT.out]
       have O6 := Lib.hid (O2.out.below hb6)
       have B6 := Lib.hid (B2.out.trans (hb6.mono B2.out.size))
       clear hb6
       by_cases heq : putBlock ys every = s.data.toList
       · have hAs : A = s := bytes_ext (by rw [HA.out, heq])
         have hsame : (A.toList == s.toList) = true := by rw [hAs]; exact same_beq s
         clear hAs
         have HGG := Lib.hid (HG.out.1 heq)
         go_wp2
         go_ret2
         exact ⟨_, ys, true, rfl, HGG.out, O6.out, B6.out⟩
       · have hoth := other_beq (A := A) (B := s) (by rw [HA.out]; exact heq)
         have HGG := Lib.hid (HG.out.2 heq)
         have O7 := Lib.hid (show OwnC w6.heap.size (w6.alloc (.cells #[] 41)) (.slice (some ⟨w6.heap.size, 0, none⟩) 0 0) [] from World.ownsRow_made w6 #[] 0 (Nat.le_refl _) (by unfold maxLen; omega) (by simp))
         have B7 := Lib.hid (B6.out.trans ((one_below w6 (.cells #[] 41)).mono B6.out.size))
         go_wp2
         go_ret2
         exact ⟨_, [], false, rfl, HGG.out, own_base O7.out B6.out.size, B7.out⟩
     · have hc4 : ¬ i < 0 := by omega
       have hc5 : ¬ (ys.length : Int) ≤ 50 := by omega
       go_wp2_with fail
       refine (specPutBlock ad ys.length cap ys every (by omega) HFT.out _ O2.out.row).mono ?_
       rintro e w6 ⟨rfl, hb6⟩
       rw [HAT.out]
       have O6 := Lib.hid (O2.out.below hb6)
       have B6 := Lib.hid (B2.out.trans (hb6.mono B2.out.size))
       clear hb6
       by_cases heq : putBlock ys every = s.data.toList
       · have hAs : A = s := bytes_ext (by rw [HA.out, heq])
         have hsame : (A.toList == s.toList) = true := by rw [hAs]; exact same_beq s
         clear hAs
         have HGG := Lib.hid (HG.out.1 heq)
         go_wp2
         go_ret2
         exact ⟨_, ys, true, rfl, HGG.out, O6.out, B6.out⟩
       · have hoth := other_beq (A := A) (B := s) (by rw [HA.out]; exact heq)
         have HGG := Lib.hid (HG.out.2 heq)
         have O7 := Lib.hid (show OwnC w6.heap.size (w6.alloc (.cells #[] 41)) (.slice (some ⟨w6.heap.size, 0, none⟩) 0 0) [] from World.ownsRow_made w6 #[] 0 (Nat.le_refl _) (by unfold maxLen; omega) (by simp))
         have B7 := Lib.hid (B6.out.trans ((one_below w6 (.cells #[] 41)).mono B6.out.size))
         go_wp2
         go_ret2
         exact ⟨_, [], false, rfl, HGG.out, own_base O7.out B6.out.size, B7.out⟩
set_option maxRecDepth 100000 in
set_option maxHeartbeats 1000000 in
theorem specGetBlock (s : ByteArray) (every : Int) (hs : s.size ≤ 1048576) (w : World) :
   Calls Tryz.prog 114 #[.string s, .int .i64 every] w (GotOut w s.data.toList every) := by
 have hll : s.data.toList.length = s.size := by simp
 obtain ⟨z, hz⟩ : ∃ z, getFix s.data.toList ((s.data.toList.length : Int) - 2) 2 = z := ⟨_, rfl⟩
 have hzb := getFix_bd2 s.data.toList ((s.data.toList.length : Int) - 2)
 rw [hz] at hzb
 obtain ⟨z1, z2⟩ := hzb
 by_cases hno : z < 0 ∨ (s.size : Int) - 2 * (z + 1) < 0
 · have HG := Lib.hid (show Got s.data.toList every [] false from got_no (by rw [hz, hll]; exact hno))
   rw [hll] at hz
   have HZ := Lib.hid hz
   have O0 := Lib.hid (show OwnC w.heap.size (w.alloc (.cells #[] 41)) (.slice (some ⟨w.heap.size, 0, none⟩) 0 0) [] from World.ownsRow_made w #[] 0 (Nat.le_refl _) (by unfold maxLen; omega) (by simp))
   have B0 := Lib.hid (one_below w (.cells #[] 41))
   clear hz hll
   by_cases h0 : z < 0
   · obtain rfl : z = -1 := by omega
     clear hno z1 z2 h0
     go_enter Tryz.func114, Tryz.ntmps114
     go_wp2_with fail
     refine (specGetFix s ((s.size : Int) - 2) 2 _ (by unfold maxLen; omega) (by omega)).mono ?_
     rw [HZ.out]
     rintro e w1 ⟨rfl, hb1⟩
     have O1 := Lib.hid (O0.out.below hb1)
     have B1 := Lib.hid (B0.out.trans (hb1.mono B0.out.size))
     clear hb1
     go_wp2
     go_ret2
     exact ⟨_, [], false, rfl, HG.out, O1.out, B1.out⟩
   · obtain ⟨q, rfl⟩ := Int.eq_ofNat_of_zero_le (by omega : 0 ≤ z)
     have g1 : ¬ (q : Int) < 0 := by omega
     have g2 : (s.size : Int) - 2 - 2 * (q : Int) < 0 := by omega
     clear hno h0
     go_enter Tryz.func114, Tryz.ntmps114
     go_wp2_with fail
     refine (specGetFix s ((s.size : Int) - 2) 2 _ (by unfold maxLen; omega) (by omega)).mono ?_
     rw [HZ.out]
     rintro e w1 ⟨rfl, hb1⟩
     have O1 := Lib.hid (O0.out.below hb1)
     have B1 := Lib.hid (B0.out.trans (hb1.mono B0.out.size))
     clear hb1
     go_wp2
     go_ret2
     exact ⟨_, [], false, rfl, HG.out, O1.out, B1.out⟩
 · obtain ⟨q, rfl⟩ := Int.eq_ofNat_of_zero_le (by omega : 0 ≤ z)
   exact specGetBlock_in s every hs q (s.size - 2 * (q + 1)) hz (by omega) w
end Go.Proofs.YtkomnnijnggbpaaGreatDoor
