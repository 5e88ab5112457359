/- The program's iterator over the entries of a block: it yields them in order, as long as it is let. -/
import Derived.Test.YtkomnnijnggbpaaTimes
import Derived.Test.YtkomnnijnggbpaaZ0
import Derived.Test.YtkomnnijnggbpaaKeyOf
import Derived.Test.YtkomnnijnggbpaaPutBlockS
namespace Go.Proofs.Ytkomnnijnggbpaa
open Go.RowKit Go.Shelf
set_option linter.unusedVariables false
attribute [local go_sem] Oper.semAt_some

def entVals (y : Ent) : Array Value := #[.int .i64 y.place, .agg #[.int .i64 y.share, .string y.rest, .bool y.gone, .string y.value]]
def KeepNot (B p q : Nat) (W W' : World) : Prop := ∀ k, k < B → k ≠ p → k ≠ q → W'.heap[k]? = W.heap[k]?
theorem KeepNot.trans {B p q : Nat} {X Y Z : World} (h : KeepNot B p q X Y) (k : KeepNot B p q Y Z) : KeepNot B p q X Z := fun j hj h1 h2 => (k j hj h1 h2).trans (h j hj h1 h2)
theorem keepNot_put {B p q : Nat} (W : World) (l : Nat) (o o' : Obj) (hl : B ≤ l) : KeepNot B p q W (W.putObj l o') := fun k hk _ _ => World.putObj_heap_other (by omega)
theorem keepNot_below {B p q : Nat} {W W' : World} (h : Below W.heap.size W W') (hB : B ≤ W.heap.size) : KeepNot B p q W W' := fun k hk _ _ => h.block k (by omega)
structure EntAt (W : World) (B p q Bl Be : Nat) (a : Option Addr) (m c : Nat) (xs : List Cel) (e : Nat) : Prop where
 list : W.cell? ⟨Bl, 0, none⟩ = some (.slice a m c)
 every : W.cell? ⟨Be, 0, none⟩ = some (.int .i64 e)
 row : CelRowO W a m c xs
 ltl : Bl < B ∧ Bl ≠ p ∧ Bl ≠ q
 lte : Be < B ∧ Be ≠ p ∧ Be ≠ q
 ltr : xs ≠ [] → ∀ x, a = some x → x.block < B ∧ x.block ≠ p ∧ x.block ≠ q
 size : B ≤ W.heap.size
theorem EntAt.keep {W W' : World} {B p q Bl Be : Nat} {a : Option Addr} {m c : Nat} {xs : List Cel} {e : Nat} (h : EntAt W B p q Bl Be a m c xs e) (hk : KeepNot B p q W W') (hs : W.heap.size ≤ W'.heap.size) : EntAt W' B p q Bl Be a m c xs e := by
 refine ⟨(World.cell?_of_block (w := W) (hk Bl h.ltl.1 h.ltl.2.1 h.ltl.2.2)).trans h.list, (World.cell?_of_block (w := W) (hk Be h.lte.1 h.lte.2.1 h.lte.2.2)).trans h.every, ⟨h.row.1, h.row.2.1, fun k y hy => ?_⟩, h.ltl, h.lte, h.ltr, Nat.le_trans h.size hs⟩
 obtain ⟨g, off, rfl, h5⟩ := h.row.2.2 k y hy
 have hr := h.ltr (fun he => by rw [he] at hy; simp at hy) _ rfl
 have e := hk g hr.1 hr.2.1 hr.2.2
 obtain ⟨h0, h1, h2, h3, h4⟩ := h5
 exact ⟨g, off, rfl, (World.cell?_of_block (w := W) e).trans h0, (World.cell?_of_block (w := W) e).trans h1, (World.cell?_of_block (w := W) e).trans h2, (World.cell?_of_block (w := W) e).trans h3, (World.cell?_of_block (w := W) e).trans h4⟩
theorem EntAt.below {W W' : World} {B p q Bl Be : Nat} {a : Option Addr} {m c : Nat} {xs : List Cel} {e : Nat} (h : EntAt W B p q Bl Be a m c xs e) (hb : Below W.heap.size W W') : EntAt W' B p q Bl Be a m c xs e := h.keep (keepNot_below hb h.size) hb.size
theorem cel5_from {w : World} {g off st i : Nat} {y : Cel} (h : Cel5O w g (off + (st + i) * 5) y) : w.cell? ⟨g, off + st * 5 + i * 5, none⟩ = some (.string y.row) ∧ w.cell? ⟨g, off + st * 5 + i * 5 + 1, none⟩ = some (.string y.col) ∧ w.cell? ⟨g, off + st * 5 + i * 5 + 2, none⟩ = some (.int .i64 y.time) ∧ w.cell? ⟨g, off + st * 5 + i * 5 + 3, none⟩ = some (.bool y.gone) ∧ w.cell? ⟨g, off + st * 5 + i * 5 + 4, none⟩ = some (.string y.value) := by
 have e : off + (st + i) * 5 = off + st * 5 + i * 5 := by omega
 unfold Cel5O at h
 rw [e] at h
 exact h

set_option maxRecDepth 100000 in
set_option maxHeartbeats 4000000 in
theorem entries_in (n l B p q Bl Be : Nat) (a : Option Addr) (m c : Nat) (xs : List Cel) (e : Nat) (h1 : 1 ≤ e) (h16 : e ≤ 16) (hm : m ≤ 50) (hf : Fit xs) (hok : cellsOk xs = true) (J Jx : List Ent → World → Prop)
   (hY : ∀ pre x W, J pre W → pre.length < m → YieldAt Fence.wide (n - 1) Try.prog l (entVals x) W fun e' W' =>
     (e' = .returned (.bool true) ∧ J (pre ++ [x]) W' ∧ (KeepNot B p q W W' ∧ W.heap.size ≤ W'.heap.size)) ∨ (e' = .returned (.bool false) ∧ Jx (pre ++ [x]) W'))
   (B' : Nat) (hJ : AbidesFrom B' J) (W : World) (ht : EntAt W B p q Bl Be a m c xs e) (h0 : J [] W) :
   CallsIn Fence.wide n Try.prog 86 #[.func (.yield l) #[] #[], .pointer (some ⟨Bl, 0, none⟩), .pointer (some ⟨Be, 0, none⟩)] W fun e' W' => (∃ v, e' = .returned v) ∧
     ((∃ ys, EntsOf e xs m ys ∧ J ys W') ∨ (∃ pre, pre.length ≤ m ∧ Jx pre W')) := by
 have hmc := ht.row.2.1
 have hml := ht.row.1
 have TT := Lib.hid ht
 have HY := Lib.hid hY
 have H0 := Lib.hid h0
 have HF := Lib.hid hf
 have HB := Lib.hid hok
 have HML := Lib.hid hml
 clear ht hY h0 hf hok hml
 refine callsIn_of_wp Try.func86 rfl trivial ?_ rfl
 simp only [Try.ntmps86, List.size_toArray, List.length_cons, List.length_nil, Nat.reduceAdd, Nat.reduceSub, Array.replicate_succ, Array.replicate_zero, List.push_toArray, List.append_toArray, List.nil_append, List.cons_append]
 refine wpIn_scope ?_
 gi_wp2
 refine wpIn_label ?_
 gi_wp2
 gi_loopw [4] (fun ii wr => ∃ (st : Nat) (pre : List Ent), st ≤ m + 16 ∧ ii = .int .i64 st ∧ EntAt wr B p q Bl Be a m c xs e ∧ J pre wr ∧ Hid (st % e = 0 ∧ EntsOf e xs (min st m) pre))
   (fun ii _ => m + 20 - (intOf ii).toNat)
 case atStart => exact ⟨0, [], by omega, rfl, TT.out, H0.out, show _ ∧ _ from ⟨by simp, by rw [Nat.zero_min]; exact ents_nil _ _⟩⟩
 case round =>
   obtain ⟨st, pre0, hst, rfl, tt, hj, HST⟩ := hrel
   have TW := Lib.hid tt
   have HJ0 := Lib.hid hj
   have hcl := tt.list
   clear tt hj TT H0
   by_cases hlt : st < m
   · have hlt' : (st : Int) < (m : Int) := by omega
     have hcs : ¬ c = st := by omega
     obtain ⟨g, off, rfl⟩ : ∃ g off, a = some ⟨g, off, none⟩ := by
       obtain ⟨y, hy⟩ : ∃ y, xs[st]? = some y := ⟨_, List.getElem?_eq_getElem (by rw [HML.out]; exact hlt)⟩
       obtain ⟨g, off, hg, _⟩ := TW.out.row.2.2 st y hy
       exact ⟨g, off, hg⟩
     have s1 : (st : Int) ≤ (m : Int) := by omega
     have s2 : (m : Int) ≤ (c : Int) := by omega
     gi_wp2
     gi_loopw [5, 21] (fun uu ii wr => ∃ (i : Nat) (A : ByteArray) (pre : List Ent), i ≤ m - st ∧ i ≤ e ∧ ii = .int .i64 i ∧ uu = .string A ∧ A.size ≤ 38 ∧ EntAt wr B p q Bl Be (some ⟨g, off, none⟩) m c xs e ∧ J pre wr ∧ Hid (EntsOf e xs (st + i) pre ∧ A.data.toList = if i = 0 then [] else lastOf [] (xs.take (st + i))))
       (fun _ ii _ => m - st - (intOf ii).toNat)
     case atStart => exact ⟨0, ⟨#[]⟩, pre0, by omega, by omega, rfl, rfl, by decide, TW.out, HJ0.out, show _ ∧ _ from ⟨by have := HST.out.2; rwa [Nat.min_eq_left (by omega)] at this, rfl⟩⟩
     case round =>
       obtain ⟨i, A, pre, hi, hie, rfl, rfl, hA, tt, hj, HP0⟩ := hrel
       have TI := Lib.hid tt
       have HJ := Lib.hid hj
       have hev := tt.every
       have HP := Lib.hid HP0.out.1
       have HPA := Lib.hid HP0.out.2
       clear tt hj HP0
       by_cases hil : i < m - st
       · obtain ⟨⟨R1, C1, T1, G1, V1⟩, hy⟩ : ∃ y, xs[st + i]? = some y := ⟨_, List.getElem?_eq_getElem (by rw [HML.out]; omega)⟩
         have HYY := Lib.hid hy
         have i1 : (i : Int) < ((m - st : Nat) : Int) := by omega
         obtain ⟨g', off', hg', k5⟩ := TI.out.row.2.2 (st + i) _ hy
         cases hg'
         obtain ⟨c0, c1, c2, c3, c4⟩ := cel5_from k5
         by_cases hie2 : i < e
         · have hne : ((i : Int) == (e : Int)) = false := beq_eq_false_iff_ne.2 (by omega)
           have hck := cells_ok HB.out hy
           obtain ⟨hR, hC, _⟩ := HF.out.at hy
           have hkl := key_small hck
           have hvl : V1.size ≤ 30 := value_small hck
           have E0 := Lib.hid (one5_new wr (.string R1) (.string C1) (.int .i64 T1) (.bool G1) (.string V1) 36)
           have K0 := Lib.hid (one_below wr (.cells #[.string R1, .string C1, .int .i64 T1, .bool G1, .string V1] 36))
           have hev2 := (TI.out.below K0.out).every
           clear hy hck k5 hev
           gi_wp2_with fail
           refine ⟨trivial, (fun h => by cases h), ?_⟩
           obtain ⟨W0, hW⟩ : ∃ W, wr.alloc (.cells #[.string R1, .string C1, .int .i64 T1, .bool G1, .string V1] 36) = W := ⟨_, rfl⟩
           rw [hW] at E0 K0 hev2 ⊢
           clear hW
           obtain ⟨AA, hAA⟩ : ∃ A, wr.heap.size = A := ⟨_, rfl⟩
           rw [hAA] at E0 ⊢
           clear hAA c0 c1 c2 c3 c4 hev2
           refine (callsIn_wide.2 (implKeyOf R1 C1 T1 hR hC _)).mono ?_
           intro e' w1 t1
           obtain ⟨K1, hK, hKz, rfl, hb1⟩ := t1.text
           have HK1 := Lib.hid (show K1.data.toList = celKey ⟨R1, C1, T1, G1, V1⟩ from hK)
           have hKs : K1.size ≤ 38 := by rw [hKz]; exact hkl
           have E1 := Lib.hid (E0.out.below hb1)
           have D1 := Lib.hid (K0.out.trans (hb1.mono K0.out.size))
           clear hK hKz hb1 t1 hkl E0 K0
           gi_wp2_with fail
           refine ⟨trivial, (fun h => by cases h), ?_⟩
           refine (callsIn_wide.2 (implShared A K1 _ (by unfold maxLen; omega) (by unfold maxLen; omega))).mono ?_
           rintro e' w2 ⟨rfl, n2, rfl⟩
           have hKl : K1.data.toList.length = K1.size := by simp
           have hs1 := shared_le_right A.data.toList K1.data.toList
           rw [hKl] at hs1
           obtain ⟨sh, hsh⟩ : ∃ sh, shared A.data.toList K1.data.toList = sh := ⟨_, rfl⟩
           rw [hsh] at hs1 ⊢
           have HSH := Lib.hid (show sh = shareOf e (st + i) (lastOf [] (xs.take (st + i))) (celKey ⟨R1, C1, T1, G1, V1⟩) by rw [← hsh, ← HK1.out]; exact share_run HST.out.1 hie2 HPA.out)
           have E2 := Lib.hid (E1.out.below (below_draws (B := w1.heap.size) n2))
           have D2 := Lib.hid (D1.out.trans (below_draws (B := wr.heap.size) n2))
           obtain ⟨W2, hW2⟩ : ∃ W2, w1.drewN n2 = W2 := ⟨_, rfl⟩
           rw [hW2] at E2 D2 ⊢
           have T2 := Lib.hid (TI.out.below D2.out)
           have HJ2 := Lib.hid (hJ _ _ _ none HJ.out (grown_of_below D2.out) (fun _ h => by cases h))
           obtain ⟨X, hX⟩ : ∃ X, K1.extract sh K1.size = X := ⟨_, rfl⟩
           have hXs : X.size ≤ 38 := by rw [← hX, ByteArray.size_extract]; omega
           have HXX := Lib.hid (show X.data.toList = (celKey ⟨R1, C1, T1, G1, V1⟩).drop sh by rw [← hX, drop_text, HK1.out])
           have HEN := Lib.hid (show st + i ≤ 50 ∧ sh ≤ 38 ∧ X.size ≤ 38 ∧ V1.size ≤ 30 from ⟨by omega, by omega, hXs, hvl⟩)
           have x1 : (sh : Int) ≤ (K1.size : Int) := by omega
           have x2 : (0 : Int) ≤ (sh : Int) := by omega
           have x3 : IntKind.i64.wrap ((st : Int) + (i : Int)) = (st : Int) + (i : Int) := IntWalk.i64_in _ (by omega)
           clear hKl hsh E1 D1 hW2 TI
           have E2o := E2.out
           unfold One5 at E2o
           obtain ⟨f0, f1, f2, f3, f4⟩ := E2o
           gi_wp2_with fail
           refine wpIn_region_any (by kernel_rfl) ?_
           change wpAnyIn _ _ _ _ _ _ _ _ _ (World.drew _)
           refine wpAnyIn_take (i := 0) (v := ?_) rfl rfl (by kernel_rfl) (by kernel_rfl) (by kernel_rfl) (fun _ _ _ h => h) ⟨Or.inl ⟨by rfl, ?hy⟩, fun _ => rfl⟩ ?_
           case hy => (intro w'; go_simp <;> with_reducible rfl)
           simp only [Act.put, List.setIfInBounds_toArray]
           refine wpAnyIn_take (i := 1) (v := ?_) rfl rfl (by kernel_rfl) (by kernel_rfl) (by kernel_rfl) (fun _ _ _ h => h) ⟨Or.inl ⟨by rfl, ?hy⟩, fun _ => rfl⟩ ?_
           case hy => (intro w'; go_simp <;> with_reducible rfl)
           simp only [Act.put]
           refine wpAnyIn_take (i := 2) (v := ?_) rfl rfl (by kernel_rfl) (by kernel_rfl) (by kernel_rfl) (fun _ _ _ h => h) ⟨Or.inl ⟨by rfl, ?hy⟩, fun _ => rfl⟩ ?_
           case hy => (intro w'; go_simp <;> with_reducible rfl)
           simp only [Act.put]
           refine wpAnyIn_take (i := 3) (v := ?_) rfl rfl (by kernel_rfl) (by kernel_rfl) (by kernel_rfl) (fun _ _ _ h => h) ⟨Or.inl ⟨by rfl, ?hy⟩, fun _ => rfl⟩ ?_
           case hy => (intro w'; go_simp <;> with_reducible rfl)
           simp only [Act.put]
           refine wpAnyIn_take (i := 4) (v := ?_) rfl rfl (by kernel_rfl) (by kernel_rfl) (by kernel_rfl) (fun _ _ _ h => h) ⟨Or.inl ⟨by rfl, ?hy⟩, fun _ => rfl⟩ ?_
           case hy => (intro w'; go_simp <;> with_reducible rfl)
           simp only [Act.put]
           refine wpAnyIn_take (i := 5) (v := ?_) rfl rfl (by kernel_rfl) (by kernel_rfl) (by kernel_rfl) (fun _ _ _ h => h) ⟨Or.inl ⟨by rfl, ?hy⟩, fun _ => rfl⟩ ?_
           case hy => (intro w'; go_simp <;> with_reducible rfl)
           simp only [Act.put]
           refine wpAnyIn_take (i := 6) (v := ?_) rfl rfl (by kernel_rfl) (by kernel_rfl) (by kernel_rfl) (fun _ _ _ h => h) ⟨Or.inl ⟨by rfl, ?hy⟩, fun _ => rfl⟩ ?_
           case hy => (intro w'; go_simp <;> with_reducible rfl)
           simp only [Act.put]
           refine wpAnyIn_take (i := 7) (v := ?_) rfl rfl (by kernel_rfl) (by kernel_rfl) (by kernel_rfl) (fun _ _ _ h => h) ⟨Or.inl ⟨by rfl, ?hy⟩, fun _ => rfl⟩ ?_
           case hy => (intro w'; go_simp <;> with_reducible rfl)
           simp only [Act.put]
           refine wpAnyIn_take (i := 8) (v := ?_) rfl rfl (by kernel_rfl) (by kernel_rfl) (by kernel_rfl) (fun _ _ _ h => h) ⟨Or.inl ⟨by rfl, ?hy⟩, fun _ => rfl⟩ ?_
           case hy => (intro w'; go_simp <;> with_reducible rfl)
           simp only [Act.put]
           refine wpAnyIn_take (i := 10) (v := ?_) rfl rfl (by kernel_rfl) (by kernel_rfl) (by kernel_rfl) (fun _ _ _ h => h) ⟨Or.inl ⟨by rfl, ?hy⟩, fun _ => rfl⟩ ?_
           case hy => (intro w'; go_simp <;> with_reducible rfl)
           simp only [Act.put]
           refine wpAnyIn_ready (rs := [9, 11]) (by kernel_rfl) (by simp) ?_
           refine (AllReadyIn.cons rfl (fun K hK => ?_) (AllReadyIn.cons rfl (fun K hK => ?_) AllReadyIn.nil))
           · skip
             go_simp
             refine hK _ _ ?_
             clear hK K
             refine wpAnyIn_ready (rs := [11]) (by kernel_rfl) (by simp) ?_
             refine (AllReadyIn.cons rfl (fun K hK => ?_) AllReadyIn.nil)
             go_simp
             refine hK _ _ ?_
             clear hK K
             refine wpAnyIn_take (i := 12) (v := ?_) rfl rfl (by kernel_rfl) (by kernel_rfl) (by kernel_rfl) (fun _ _ _ h => h) ⟨Or.inl ⟨by rfl, ?hy⟩, fun _ => rfl⟩ ?_
             case hy => (intro w'; go_simp <;> with_reducible rfl)
             simp only [Act.put, List.setIfInBounds_toArray]
             refine wpAnyIn_ready (rs := [13]) (by kernel_rfl) (by simp) ?_
             refine (AllReadyIn.cons rfl (fun K hK => ?_) AllReadyIn.nil)
             obtain ⟨fn, tmps, assign, body, hy, hR⟩ := HY.out pre ⟨st + i, sh, X, G1, V1, HEN.out⟩ W2.drew (hJ _ _ _ none HJ2.out (grown_drewN W2 1 none) (fun _ h => by cases h)) (by rw [HP.out.1]; omega)
             unfold entVals at hy
             rw [show (((⟨st + i, sh, X, G1, V1, HEN.out⟩ : Ent).place : Nat) : Int) = (st : Int) + (i : Int) from by simp] at hy
             go_simp
             refine ⟨(fun h => by cases h), hR.mono ?_⟩
             clear hy hR
             rintro e' W3 (⟨rfl, hJ3, hk3⟩ | ⟨rfl, hJx3⟩)
             · have T3 := Lib.hid (EntAt.keep (W := W2) T2.out hk3.1 hk3.2)
               have HJ3 := Lib.hid hJ3
               clear hJ3 hk3 f0 f1 f2 f3 f4
               simp only []
               refine hK _ _ ?_
               clear hK K
               refine wpAnyIn_take (i := 14) (v := ?_) rfl rfl (by kernel_rfl) (by kernel_rfl) (by kernel_rfl) (fun _ _ _ h => h) ⟨Or.inl ⟨by rfl, ?hy⟩, fun _ => rfl⟩ ?_
               case hy => (intro w'; go_simp <;> with_reducible rfl)
               simp only [Act.put, List.setIfInBounds_toArray]
               refine wpAnyIn_done (by kernel_rfl) ?_ _
               gi_wp2
               go_roundw
               case rel => exact ⟨i + 1, K1, pre ++ [⟨st + i, sh, X, G1, V1, HEN.out⟩], by omega, by omega, by go_num, rfl, by omega, T3.out, HJ3.out, show _ ∧ _ from ⟨by rw [← Nat.add_assoc]; exact ents_snoc HP.out HYY.out ⟨st + i, sh, X, G1, V1, HEN.out⟩ rfl HSH.out HXX.out rfl rfl, by rw [if_neg (by omega), ← Nat.add_assoc, last_step HYY.out]; exact HK1.out⟩⟩
               case measure => simp [intOf]; omega
             · have HX := Lib.hid hJx3
               clear hJx3 f0 f1 f2 f3 f4
               simp only []
               refine hK _ _ ?_
               clear hK K
               refine wpAnyIn_take (i := 14) (v := ?_) rfl rfl (by kernel_rfl) (by kernel_rfl) (by kernel_rfl) (fun _ _ _ h => h) ⟨Or.inl ⟨by rfl, ?hy⟩, fun _ => rfl⟩ ?_
               case hy => (intro w'; go_simp <;> with_reducible rfl)
               simp only [Act.put, List.setIfInBounds_toArray]
               refine wpAnyIn_done (by kernel_rfl) ?_ _
               gi_wp2
               rw [Exit.noGoto_ret]
               exact bodyPost_ret (results_none rfl _ _ _) rfl ⟨⟨_, rfl⟩, .inr ⟨_, by rw [List.length_append, HP.out.1]; simp; omega, HX.out⟩⟩
           · skip
             go_simp
             refine hK _ _ ?_
             clear hK K
             refine wpAnyIn_ready (rs := [9]) (by kernel_rfl) (by simp) ?_
             refine (AllReadyIn.cons rfl (fun K hK => ?_) AllReadyIn.nil)
             go_simp
             refine hK _ _ ?_
             clear hK K
             refine wpAnyIn_take (i := 12) (v := ?_) rfl rfl (by kernel_rfl) (by kernel_rfl) (by kernel_rfl) (fun _ _ _ h => h) ⟨Or.inl ⟨by rfl, ?hy⟩, fun _ => rfl⟩ ?_
             case hy => (intro w'; go_simp <;> with_reducible rfl)
             simp only [Act.put, List.setIfInBounds_toArray]
             refine wpAnyIn_ready (rs := [13]) (by kernel_rfl) (by simp) ?_
             refine (AllReadyIn.cons rfl (fun K hK => ?_) AllReadyIn.nil)
             obtain ⟨fn, tmps, assign, body, hy, hR⟩ := HY.out pre ⟨st + i, sh, X, G1, V1, HEN.out⟩ W2.drew (hJ _ _ _ none HJ2.out (grown_drewN W2 1 none) (fun _ h => by cases h)) (by rw [HP.out.1]; omega)
             unfold entVals at hy
             rw [show (((⟨st + i, sh, X, G1, V1, HEN.out⟩ : Ent).place : Nat) : Int) = (st : Int) + (i : Int) from by simp] at hy
             go_simp
             refine ⟨(fun h => by cases h), hR.mono ?_⟩
             clear hy hR
             rintro e' W3 (⟨rfl, hJ3, hk3⟩ | ⟨rfl, hJx3⟩)
             · have T3 := Lib.hid (EntAt.keep (W := W2) T2.out hk3.1 hk3.2)
               have HJ3 := Lib.hid hJ3
               clear hJ3 hk3 f0 f1 f2 f3 f4
               simp only []
               refine hK _ _ ?_
               clear hK K
               refine wpAnyIn_take (i := 14) (v := ?_) rfl rfl (by kernel_rfl) (by kernel_rfl) (by kernel_rfl) (fun _ _ _ h => h) ⟨Or.inl ⟨by rfl, ?hy⟩, fun _ => rfl⟩ ?_
               case hy => (intro w'; go_simp <;> with_reducible rfl)
               simp only [Act.put, List.setIfInBounds_toArray]
               refine wpAnyIn_done (by kernel_rfl) ?_ _
               gi_wp2
               go_roundw
               case rel => exact ⟨i + 1, K1, pre ++ [⟨st + i, sh, X, G1, V1, HEN.out⟩], by omega, by omega, by go_num, rfl, by omega, T3.out, HJ3.out, show _ ∧ _ from ⟨by rw [← Nat.add_assoc]; exact ents_snoc HP.out HYY.out ⟨st + i, sh, X, G1, V1, HEN.out⟩ rfl HSH.out HXX.out rfl rfl, by rw [if_neg (by omega), ← Nat.add_assoc, last_step HYY.out]; exact HK1.out⟩⟩
               case measure => simp [intOf]; omega
             · have HX := Lib.hid hJx3
               clear hJx3 f0 f1 f2 f3 f4
               simp only []
               refine hK _ _ ?_
               clear hK K
               refine wpAnyIn_take (i := 14) (v := ?_) rfl rfl (by kernel_rfl) (by kernel_rfl) (by kernel_rfl) (fun _ _ _ h => h) ⟨Or.inl ⟨by rfl, ?hy⟩, fun _ => rfl⟩ ?_
               case hy => (intro w'; go_simp <;> with_reducible rfl)
               simp only [Act.put, List.setIfInBounds_toArray]
               refine wpAnyIn_done (by kernel_rfl) ?_ _
               gi_wp2
               rw [Exit.noGoto_ret]
               exact bodyPost_ret (results_none rfl _ _ _) rfl ⟨⟨_, rfl⟩, .inr ⟨_, by rw [List.length_append, HP.out.1]; simp; omega, HX.out⟩⟩
         · obtain rfl : i = e := by omega
           have hne : ((i : Int) == (i : Int)) = true := by simp
           have K0 := Lib.hid (one_below wr (.cells #[.string R1, .string C1, .int .i64 T1, .bool G1, .string V1] 36))
           have hev2 := (TI.out.below K0.out).every
           have T2 := Lib.hid (TI.out.below K0.out)
           have HJ2 := Lib.hid (hJ _ _ _ none HJ.out (grown_of_below K0.out) (fun _ h => by cases h))
           clear hy k5 hev K0
           gi_wp2
           go_roundw
           case rel => exact ⟨st + i, pre, by omega, by go_num, T2.out, HJ2.out, show _ ∧ _ from ⟨by rw [Nat.add_mod, HST.out.1, Nat.mod_self]; simp, by rw [Nat.min_eq_left (by omega)]; exact HP.out⟩⟩
           case measure => simp [intOf]; omega
       · have hev2 := TI.out.every
         have i1 : ¬ (i : Int) < ((m - st : Nat) : Int) := by omega
         gi_wp2
         go_roundw
         case rel => exact ⟨st + e, pre, by omega, by go_num, TI.out, HJ.out, show _ ∧ _ from ⟨by rw [Nat.add_mod, HST.out.1, Nat.mod_self]; simp, by have := HP.out; rw [show st + i = m by omega] at this; rw [Nat.min_eq_right (by omega)]; exact this⟩⟩
         case measure => simp [intOf]; omega
   · have hlt' : ¬ (st : Int) < (m : Int) := by omega
     gi_wp2
     go_end0
     exact ⟨⟨_, rfl⟩, .inl ⟨pre0, by have := HST.out.2; rwa [Nat.min_eq_right (by omega)] at this, HJ0.out⟩⟩
end Go.Proofs.Ytkomnnijnggbpaa
