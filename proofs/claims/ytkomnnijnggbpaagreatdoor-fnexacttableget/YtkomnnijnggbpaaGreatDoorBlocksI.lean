/- The program's reader of a table's blocks, one behind the other. -/
import Derived.Test.YtkomnnijnggbpaaGreatDoorZ9
import Derived.Test.YtkomnnijnggbpaaGreatDoorGetTabS
import Derived.Test.YtkomnnijnggbpaaGreatDoorZ11
namespace Go.Proofs.YtkomnnijnggbpaaGreatDoor
open Go.RowKit
set_option linter.unusedVariables false

theorem op_pushBig {B : Nat} {w : World} {v : Value} {xs : List Cel} (ys : List Cel) {ad : Addr} {c : Nat} {o : Oper} {act : Act} {K : Act → World → Prop} {Q : Exit → Act → World → Prop} (s x : Operand)
   (hop : o.op = .call { callee := .builtin .append, args := #[s, x], argTypes := #[24, 24] })
   (hs : act.eval s = v) {m : Nat} (hx : act.eval x = .slice (some ad) m c) (hm : ys.length = m) (hb : ∀ j u, (ys.flatMap celCells)[j]? = some u → w.cell? (ad.add j) = some u) (h : OwnC B w v xs) (hB : B ≤ w.heap.size) (hl : xs.length + ys.length < 1000000)
   (hk : ∀ v' w', OwnC B w' v' (xs ++ ys) → w.grownBy w' v.ownBlock → K (act.put o.dst v') w') : o.wp Tryz.prog act w K Q := by
 subst hm
 obtain ⟨ti, hti, hz0, hz1, hz2⟩ := info_parts infoCel
 refine wp_append_own _ s x 24 hop B 41 ti (.agg #[.string ⟨#[]⟩, .string ⟨#[]⟩, .int .i64 0, .bool false, .string ⟨#[]⟩]) 5 64 Tryz.underlying24 hti hz0 hz1 hz2 rfl (by decide) v xs.length (xs.flatMap celCells) hs h
   ad ys.length c (ys.flatMap celCells) hx (celCells_len ys) hb (celCells_one ys) (by unfold maxLen; omega) (by omega) hB ?_
 intro v' w' hown hg _
 refine hk v' w' ?_ hg
 unfold OwnC
 rw [List.length_append, List.flatMap_append]
 exact hown
theorem own_keep {B b T : Nat} {w w' : World} {v : Value} {ys : List Cel} {cs : Array Value} {fz : Nat × Nat} (h : OwnC B w v ys) (hg : w.grownBy w' (some b)) (hb : w.heap[b]? = some (.cells cs T fz)) (hT : T ≠ 41) : OwnC B w' v ys :=
 World.ownsRow.kept h hg (.inr (fun e => own_apart h hb hT (by rw [← e])))
theorem gr_out {w W W' : World} {p g : Nat} (h : w.grownBy W (some p)) (hg : W.grownBy W' (some g)) (hp : w.heap.size ≤ g) : w.grownBy W' (some p) :=
 ⟨hg.os.trans h.os, hg.tape.trans h.tape, hg.output.trans h.output, Nat.le_trans h.size hg.size, fun j hj hne => (hg.block j (by have := h.size; omega) (fun e => by cases e; omega)).trans (h.block j hj hne)⟩
structure Reading (w : World) (p : Nat) (s : ByteArray) (g : Nat) (X : ByteArray) (fr le ev sz : Nat) (pk : Bool) (k : Int) (a : Nat) (W : World) : Prop where
 gr : w.grownBy W (some p)
 rd : RdT 115 W p s k
 cu : RdAt W g X a
 ft : W.heap[w.heap.size]? = some (.cells #[.int .i64 fr, .int .i64 le, .int .i64 ev, .int .i64 sz, .bool pk] 117 (0, 0))
 lt : w.heap.size < g
 lp : p < w.heap.size
section
variable {w : World} {p : Nat} {s : ByteArray} {g : Nat} {X : ByteArray} {fr le ev sz : Nat} {pk : Bool} {k k' : Int} {a b : Nat} {W W' : World}
theorem Reading.cur (h : Reading w p s g X fr le ev sz pk k a W) (hg : W.grownBy W' (some g)) (hr : RdAt W' g X b) : Reading w p s g X fr le ev sz pk k b W' :=
 ⟨gr_out h.gr hg (by have := h.lt; omega), (hg.block p h.rd.lt (fun e => by cases e; have := h.lt; have := h.lp; omega)).trans h.rd, hr, (hg.block _ (Array.getElem?_eq_some_iff.1 h.ft).1 (fun e => by cases e; have := h.lt; omega)).trans h.ft, h.lt, h.lp⟩
theorem Reading.rdr (h : Reading w p s g X fr le ev sz pk k a W) (hg : W.grownBy W' (some p)) (hr : RdT 115 W' p s k') : Reading w p s g X fr le ev sz pk k' a W' :=
 ⟨h.gr.trans hg, hr, (hg.block g h.cu.lt (fun e => by cases e; have := h.lt; have := h.lp; omega)).trans h.cu, (hg.block _ (Array.getElem?_eq_some_iff.1 h.ft).1 (fun e => by cases e; have := h.lp; omega)).trans h.ft, h.lt, h.lp⟩
theorem Reading.under (h : Reading w p s g X fr le ev sz pk k a W) (hb : Below W.heap.size W W') : Reading w p s g X fr le ev sz pk k a W' :=
 ⟨h.gr.trans (grown_under hb _), (hb.block p h.rd.lt).trans h.rd, (hb.block g h.cu.lt).trans h.cu, (hb.block _ (Array.getElem?_eq_some_iff.1 h.ft).1).trans h.ft, h.lt, h.lp⟩
theorem Reading.row {v : Value} {ys : List Cel} (h : Reading w p s g X fr le ev sz pk k a W) (o : OwnC w.heap.size W v ys) (hg : W.grownBy W' v.ownBlock) : Reading w p s g X fr le ev sz pk k a W' := by
 have hp : some p ≠ v.ownBlock := fun e => by have := (o.lt e.symm).1; have := h.lp; omega
 refine ⟨⟨hg.os.trans h.gr.os, hg.tape.trans h.gr.tape, hg.output.trans h.gr.output, Nat.le_trans h.gr.size hg.size, fun j hj hne => (hg.block j (by have := h.gr.size; omega) (fun e => by have := (o.lt e.symm).1; omega)).trans (h.gr.block j hj hne)⟩, (hg.block p h.rd.lt hp).trans h.rd, (hg.block g h.cu.lt (own_apart o h.cu (by decide))).trans h.cu, (hg.block _ (Array.getElem?_eq_some_iff.1 h.ft).1 (own_apart o h.ft (by decide))).trans h.ft, h.lt, h.lp⟩
end
def BlocksRead (w : World) (p : Nat) (s : ByteArray) (e : Ending) (w' : World) : Prop :=
 w.grownBy w' (some p) ∧ ((∃ v xs, e = .returned (.tuple #[v, .nilIface]) ∧ OwnC w.heap.size w' v xs ∧ (∀ x ∈ xs, cellOk x = true) ∧ xs.length ≤ 110000 ∧ ∀ ys d, tabOk ys d → tableB ys d = s.data.toList → xs = ys) ∨
   (NoTab s.data.toList ∧ ∃ name, e = .returned (.tuple #[.slice none 0 0, badV name 2])))
set_option maxHeartbeats 8000000 in
set_option maxRecDepth 100000 in
theorem readBlocks_at (p : Nat) (s : ByteArray) (k : Int) (fr le ev sz : Nat) (pk : Bool) (w : World) (h : RdT 115 w p s k) (hs : s.size ≤ 1048576) (h1 : fr < 4294967296) (h2 : le < 4294967296)
   (hI : ∀ ys d, tabOk ys d → tableB ys d = s.data.toList → fr + le ≤ s.size ∧ unwrapB ((s.data.toList.drop fr).take le) = (idxTo ys d (nBlk ys d), 0) ∧ (ev : Int) = d.every) :
   Calls Tryz.prog 105 #[.pointer (some ⟨p, 0, none⟩), footV fr le ev sz pk] w (BlocksRead w p s) := by
 have HSL := Lib.hid (show s.data.toList.length = s.size by simp)
 have hpl := h.lt
 have HI := Lib.hid hI
 have R0 := Lib.hid (show RdT 115 (w.alloc (.cells #[.int .i64 fr, .int .i64 le, .int .i64 ev, .int .i64 sz, .bool pk] 117)) p s k from (alloc_old w _ hpl).trans h)
 have F0 := Lib.hid (alloc_at w (.cells #[.int .i64 fr, .int .i64 le, .int .i64 ev, .int .i64 sz, .bool pk] 117))
 have G0 := Lib.hid (World.grownBy_alloc w (.cells #[.int .i64 fr, .int .i64 le, .int .i64 ev, .int .i64 sz, .bool pk] 117) (some p))
 unfold footV
 clear h hI
 go_enter Tryz.func105, Tryz.ntmps105
 go_wp2_with fail
 refine (readWrapped_at p s _ fr le k _ R0.out hs (by omega) (by omega)).mono ?_
 rintro e w1 ⟨g1, (⟨X, hf, hu, rfl, r1⟩ | ⟨hbad, name, rfl⟩)⟩
 · have HIX := Lib.hid (show IdxOf s.data.toList X.data.toList ev from fun ys d hT hh => by
     obtain ⟨_, e2, e3⟩ := HI.out ys d hT hh
     rw [hu] at e2
     exact ⟨(Prod.mk.inj e2).1, e3⟩)
   have hXs : X.size ≤ 2000 := by
     have h3 := (unwrap_most ((s.data.toList.drop fr).take le)).1
     rw [hu] at h3
     have h4 : X.data.toList.length ≤ 2000 := h3
     simpa using h4
   have HXL := Lib.hid (show X.data.toList.length = X.size by simp)
   have hXm : X.size ≤ maxLen := by unfold maxLen; omega
   have G1 := Lib.hid (G0.out.trans g1)
   have R1 := Lib.hid r1
   have F1 := Lib.hid ((g1.block w.heap.size (by simp) (fun e => by cases e; omega)).trans F0.out)
   clear g1 r1 hu hf
   have hlt : w.heap.size < w1.heap.size := (Array.getElem?_eq_some_iff.1 F1.out).1
   have RD0 := Lib.hid (show Reading w p s w1.heap.size X fr le ev sz pk ((fr + le : Nat) : Int) 0 (w1.alloc (.cells #[.string X, .int .i64 0] 113)) from
     ⟨G1.out.trans (World.grownBy_alloc _ _ _), (alloc_old w1 _ R1.out.lt).trans R1.out, rd_new w1 X 0, (alloc_old w1 _ hlt).trans F1.out, hlt, hpl⟩)
   have O0 := Lib.hid (show OwnC w.heap.size (w1.alloc (.cells #[.string X, .int .i64 0] 113)) (.slice none 0 0) [] from own_nil _ _)
   go_wp2_with fail
   obtain ⟨g, hg⟩ : ∃ g, w1.heap.size = g := ⟨_, rfl⟩
   obtain ⟨w2, hw2⟩ : ∃ W, w1.alloc (.cells #[.string X, .int .i64 0] 113) = W := ⟨_, rfl⟩
   rw [hw2, hg] at RD0
   rw [hw2] at O0 ⊢
   rw [hg]
   clear hw2 hg hlt
   go_loopw [8, 9] (fun vv ee wr => ∃ (r : List Cel) (a e : Nat) (kk : Int), ee = .int .i64 e ∧ a ≤ X.size ∧ e ≤ s.size ∧ r.length ≤ 50 * a ∧ wr.cell? ⟨g, 1, none⟩ = some (.int .i64 a) ∧ Hid (OwnC w.heap.size wr vv r) ∧ Hid ((∀ x ∈ r, cellOk x = true) ∧ ReadsP s.data.toList r a e) ∧ Hid (Reading w p s g X fr le ev sz pk kk a wr))
     (fun _ _ wr => match wr.cell? ⟨g, 1, none⟩ with | some (.int _ a) => X.size - a.toNat | _ => 0)
   case atStart => exact ⟨[], 0, 0, _, rfl, by omega, by omega, by simp, RD0.out.cu.cells.2.1, O0.out, ⟨by intro x hx; simp at hx, readsP_start _⟩, RD0.out⟩
   case round =>
     obtain ⟨r, a, e, kk, rfl, haX, hes, hrl, hcell, HO, HRP, HRD⟩ := hrel
     have HCELL := Lib.hid hcell
     have hm : (match wr.cell? ⟨g, 1, none⟩ with | some (.int _ a) => X.size - a.toNat | _ => 0) = X.size - a := by rw [hcell]; simp
     have HM := Lib.hid hm
     clear hcell hm
     by_cases haN : a + 1 ≤ X.size
     · go_wp2_with fail
       refine (has_yes g X a 1 _ HRD.out.cu hXm haN).mono ?_
       rintro e1 w3 ⟨rfl, n3, rfl⟩
       have RD3 := Lib.hid (HRD.out.under (below_draws n3))
       have O3 := Lib.hid (HO.out.below (below_draws n3))
       obtain ⟨w3, hw3⟩ : ∃ W, wr.drewN n3 = W := ⟨_, rfl⟩
       rw [hw3] at RD3 O3 ⊢
       clear hw3
       go_wp2_with fail
       refine (takeIndexed_at g X a _ RD3.out.cu (by omega) haX).mono ?_
       rintro e1 w4 ⟨g4, (⟨x, z, b, hraw, rfl, r4⟩ | ⟨hraw, n, m, rfl⟩)⟩
       · obtain ⟨i1, i2, i3, i4⟩ := ir_some hraw
         rw [HXL.out] at i2
         have RD4 := Lib.hid (RD3.out.cur g4 r4)
         have O4 := Lib.hid (own_keep O3.out g4 RD3.out.cu (by decide))
         have HRAW := Lib.hid hraw
         clear g4 r4 hraw
         by_cases hxe : x = e
         · subst hxe
           go_wp2_with fail
           refine (readWrapped_at p s _ x z kk _ RD4.out.rd hs i3 i4).mono ?_
           rintro e1 w5 ⟨g5, (⟨T, hf5, hu5, rfl, r5⟩ | ⟨hbad5, name, rfl⟩)⟩
           · have RD5 := Lib.hid (RD4.out.rdr g5 r5)
             have O5 := Lib.hid (O4.out.grown g5 RD4.out.lp)
             have HU5 := Lib.hid hu5
             have hTs : T.size ≤ 1048576 := by
               have h3 := (unwrap_most ((s.data.toList.drop x).take z)).1
               rw [hu5] at h3
               have h4 : T.data.toList.length ≤ 2000 := h3
               have h5 : T.data.toList.length = T.size := by simp
               omega
             obtain ⟨f5, _, _, _, _, _⟩ := blk5 RD5.out.ft
             unfold One5 at f5
             obtain ⟨b0, b1, b2, b3, b4⟩ := f5
             clear g5 r5 hu5
             go_wp2_with fail
             refine (implGetBlock T ev hTs _).mono ?_
             rintro e1 w6 ⟨v6, r6, ok, rfl, hgot, o6, b6⟩
             have RD6 := Lib.hid (RD5.out.under b6)
             have O6 := Lib.hid (O5.out.below b6)
             have P6 := Lib.hid (own_base (B' := w.heap.size) o6 (by have := RD5.out.gr.size; exact this))
             have HGOT := Lib.hid hgot
             clear hgot o6 b6 b0 b1 b2 b3 b4
             cases ok
             · have HN := Lib.hid (show NoTab s.data.toList from readsP_not HIX.out HRP.out.2 (by rw [HXL.out]; omega) HRAW.out (by rw [HU5.out]; exact HGOT.out))
               go_wp2
               go_ret2
               exact ⟨RD6.out.gr, .inr ⟨HN.out, _, rfl⟩⟩
             · have HST := Lib.hid (readsP_step HIX.out HRP.out.2 (by rw [HXL.out]; omega) HRAW.out (by rw [HU5.out]; exact HGOT.out))
               have hg6 := got_few HGOT.out
               have HK6 := Lib.hid (show ∀ y ∈ r ++ r6, cellOk y = true from fun y hy => by
                 rcases List.mem_append.1 hy with h | h
                 · exact HRP.out.1 y h
                 · exact all_ok hg6.2 y h)
               have hl6 := hg6.1
               obtain ⟨ad, cp, hv, _, hlc⟩ := own_parts O6.out
               subst hv
               obtain ⟨ad2, cp2, hv2, hnil, _⟩ := own_parts P6.out
               subst hv2
               clear hg6
               cases ad2 with
               | none =>
                 obtain ⟨hr2, hcp2⟩ := hnil rfl
                 subst hr2 hcp2
                 rw [List.append_nil] at HST HK6
                 obtain ⟨c0, c1, _⟩ := RD6.out.rd.cells
                 have cc := RD6.out.cu.cells.2.1
                 go_wp2_with (at_builtin; refine wpList_plain rfl (fun K hK => ?_); refine op_pushN _ _ rfl rfl rfl hlc ?_; refine hK _ _ ?_; clear hK K)
                 go_roundw
                 case rel => exact ⟨r, b, x + z, _, rfl, i2, by omega, by omega, RD6.out.cu.cells.2.1, O6.out, ⟨HK6.out, HST.out⟩, RD6.out⟩
                 case measure =>
                   rw [HM.out]
                   simp only [RD6.out.cu.cells.2.1]
                   omega
               | some ad2 =>
                 have HCE := Lib.hid (own_cells P6.out)
                 have hbl : w.heap.size ≤ w6.heap.size := RD6.out.gr.size
                 have hlen : r.length + r6.length < 1000000 := by omega
                 go_wp2_with (at_builtin; refine wpList_plain rfl (fun K hK => ?_); refine op_pushBig r6 _ _ rfl rfl rfl rfl HCE.out O6.out hbl hlen ?_; intro v7 w7 o7 gr7; refine hK _ _ ?_; clear hK K; have RD7 := Lib.hid (RD6.out.row O6.out gr7); have O7 := Lib.hid o7; obtain ⟨c0, c1, _⟩ := RD7.out.rd.cells; clear o7 gr7)
                 go_roundw
                 case rel => exact ⟨r ++ r6, b, x + z, _, rfl, i2, by omega, by rw [List.length_append]; omega, RD7.out.cu.cells.2.1, O7.out, ⟨HK6.out, HST.out⟩, RD7.out⟩
                 case measure =>
                   rw [HM.out]
                   simp only [RD7.out.cu.cells.2.1]
                   omega
           · have HN := Lib.hid (show NoTab s.data.toList from by
               rcases hbad5 with h | h
               · exact readsP_far HIX.out HRP.out.2 (by rw [HXL.out]; omega) HRAW.out (by rw [HSL.out]; exact h)
               · exact readsP_bad HIX.out HRP.out.2 (by rw [HXL.out]; omega) HRAW.out h)
             have G5 := Lib.hid (RD4.out.gr.trans g5)
             clear hbad5 g5
             unfold badV
             go_wp2
             go_ret2
             exact ⟨G5.out, .inr ⟨HN.out, _, rfl⟩⟩
         · have HN := Lib.hid (show NoTab s.data.toList from readsP_else HIX.out HRP.out.2 (by rw [HXL.out]; omega) HRAW.out hxe)
           have hx' : ¬ (x : Int) = (e : Int) := by omega
           go_wp2
           go_ret2
           exact ⟨RD4.out.gr, .inr ⟨HN.out, _, rfl⟩⟩
       · have HN := Lib.hid (show NoTab s.data.toList from readsP_none HIX.out HRP.out.2 (by rw [HXL.out]; omega) hraw)
         have G4 := Lib.hid (gr_out RD3.out.gr g4 (by have := RD3.out.lt; omega))
         clear g4 hraw
         go_wp2
         go_ret2
         exact ⟨G4.out, .inr ⟨HN.out, _, rfl⟩⟩
     · have HEND := Lib.hid (readsP_end HIX.out HRP.out.2 (by rw [HXL.out]; omega))
       go_wp2_with fail
       refine (has_no g X a 1 _ HRD.out.cu hXm (by omega)).mono ?_
       rintro e1 w3 ⟨rfl, n3, rfl⟩
       have RD3 := Lib.hid (HRD.out.under (below_draws n3))
       have O3 := Lib.hid (HO.out.below (below_draws n3))
       obtain ⟨w3, hw3⟩ : ∃ W, wr.drewN n3 = W := ⟨_, rfl⟩
       rw [hw3] at RD3 O3 ⊢
       clear hw3
       go_wp2
       go_ret2
       exact ⟨RD3.out.gr, .inl ⟨_, r, rfl, O3.out, HRP.out.1, by omega, HEND.out⟩⟩
 · have HN := Lib.hid (show NoTab s.data.toList from fun ys d hT hh => by
     obtain ⟨e1, e2, _⟩ := HI.out ys d hT hh
     rcases hbad with h | h
     · omega
     · rw [e2] at h; exact h rfl)
   have G1 := Lib.hid (G0.out.trans g1)
   clear hbad g1
   unfold badV
   go_wp2
   go_ret2
   exact ⟨G1.out, .inr ⟨HN.out, _, rfl⟩⟩
end Go.Proofs.YtkomnnijnggbpaaGreatDoor
