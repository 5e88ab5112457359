/- The program's blocks and its index, put part by part. -/
import Derived.Test.YtkomnnijnggbpaaChunkI
import Derived.Test.YtkomnnijnggbpaaTabCol
import Derived.Test.YtkomnnijnggbpaaPutBlk
import Derived.Test.YtkomnnijnggbpaaKeyOf
import Derived.Test.YtkomnnijnggbpaaZ1
import Derived.Test.YtkomnnijnggbpaaWrap
import Derived.Test.YtkomnnijnggbpaaBlkHold
import Derived.Test.YtkomnnijnggbpaaZ0
import Derived.Test.YtkomnnijnggbpaaPutTabS
namespace Go.Proofs.Ytkomnnijnggbpaa
open Go.RowKit Go.Shelf
set_option linter.unusedVariables false
attribute [local go_sem] Oper.semAt_some

structure Blks (w : World) (e z : Nat) (p : Bool) (O I : ByteArray) (W : World) : Prop where
 cfg : W.heap[w.heap.size]? = some (.cells #[.int .i64 e, .int .i64 z, .bool p] 28 (0, 0))
 r4 : Boxed W (w.heap.size + 1) 9 (.string ⟨#[]⟩)
 r5 : Boxed W (w.heap.size + 1 + 1) 9 (.string ⟨#[]⟩)
 r6 : Boxed W (w.heap.size + 1 + 1 + 1) 4 (.bool false)
 x7 : Boxed W (w.heap.size + 1 + 1 + 1 + 1) 9 (.string O)
 x8 : Boxed W (w.heap.size + 1 + 1 + 1 + 1 + 1) 9 (.string I)
 below : Below w.heap.size w W
 size : w.heap.size + 8 ≤ W.heap.size
theorem Blks.under {w : World} {e z : Nat} {p : Bool} {O I : ByteArray} {W W' : World} (h : Blks w e z p O I W) (hb : Below W.heap.size W W') : Blks w e z p O I W' :=
 ⟨(hb.block _ (Array.getElem?_eq_some_iff.1 h.cfg).1).trans h.cfg, (hb.block _ h.r4.lt).trans h.r4, (hb.block _ h.r5.lt).trans h.r5, (hb.block _ h.r6.lt).trans h.r6, (hb.block _ h.x7.lt).trans h.x7, (hb.block _ h.x8.lt).trans h.x8, h.below.trans (hb.mono h.below.size), Nat.le_trans h.size hb.size⟩
theorem Blks.set7 {w : World} {e z : Nat} {p : Bool} {O I : ByteArray} {W : World} (h : Blks w e z p O I W) (X : ByteArray) : Blks w e z p X I (W.setCell ⟨w.heap.size + 1 + 1 + 1 + 1, 0, none⟩ (.string X)) :=
 ⟨(Below.heap_setCell _ _ _ _ (by show w.heap.size ≠ w.heap.size + 1 + 1 + 1 + 1; omega)).trans h.cfg, h.r4.other (by omega) _, h.r5.other (by omega) _, h.r6.other (by omega) _, h.x7.set _, h.x8.other (by omega) _, h.below.setCell (by show w.heap.size ≤ w.heap.size + 1 + 1 + 1 + 1; omega) _, by simpa using h.size⟩
theorem Blks.set8 {w : World} {e z : Nat} {p : Bool} {O I : ByteArray} {W : World} (h : Blks w e z p O I W) (X : ByteArray) : Blks w e z p O X (W.setCell ⟨w.heap.size + 1 + 1 + 1 + 1 + 1, 0, none⟩ (.string X)) :=
 ⟨(Below.heap_setCell _ _ _ _ (by show w.heap.size ≠ w.heap.size + 1 + 1 + 1 + 1 + 1; omega)).trans h.cfg, h.r4.other (by omega) _, h.r5.other (by omega) _, h.r6.other (by omega) _, h.x7.other (by omega) _, h.x8.set _, h.below.setCell (by show w.heap.size ≤ w.heap.size + 1 + 1 + 1 + 1 + 1; omega) _, by simpa using h.size⟩
theorem Blks.grown {w : World} {e z : Nat} {p : Bool} {O I : ByteArray} {W W' : World} (h : Blks w e z p O I W) {row : Option Nat} (hg : W.grownBy W' row) (hr : ∀ j, row = some j → w.heap.size + 8 ≤ j) : Blks w e z p O I W' := by
 have hne : ∀ j, j < w.heap.size + 8 → some j ≠ row := fun j hj e' => by have := hr j e'.symm; omega
 exact ⟨(hg.block _ (Array.getElem?_eq_some_iff.1 h.cfg).1 (hne _ (by omega))).trans h.cfg, h.r4.kept hg (hne _ (by omega)), h.r5.kept hg (hne _ (by omega)), h.r6.kept hg (hne _ (by omega)), h.x7.kept hg (hne _ (by omega)), h.x8.kept hg (hne _ (by omega)),
   h.below.grown hg h.below.size (fun k e' => by have := hr k e'; omega), Nat.le_trans h.size hg.size⟩
theorem blks_new (w : World) (e z : Nat) (p : Bool) (o1 o2 : Obj) : Blks w e z p ⟨#[]⟩ ⟨#[]⟩ ((((((((w.alloc (.cells #[.int .i64 e, .int .i64 z, .bool p] 28)).alloc (.cells #[.string ⟨#[]⟩] 9)).alloc (.cells #[.string ⟨#[]⟩] 9)).alloc (.cells #[.bool false] 4)).alloc (.cells #[.string ⟨#[]⟩] 9)).alloc (.cells #[.string ⟨#[]⟩] 9)).alloc o1).alloc o2) := by
 have n : ∀ (W : World) (o : Obj) (k : Nat), W.heap.size = k → (W.alloc o).heap[k]? = some o := fun W o k hk => by subst hk; exact alloc_at W o
 have k : ∀ (W : World) (o o' : Obj) (j : Nat), W.heap[j]? = some o → (W.alloc o').heap[j]? = some o := fun W o o' j h => (alloc_old W o' (Array.getElem?_eq_some_iff.1 h).1).trans h
 refine ⟨?_, ?_, ?_, ?_, ?_, ?_, ?_, by simp⟩
 · exact k _ _ _ _ (k _ _ _ _ (k _ _ _ _ (k _ _ _ _ (k _ _ _ _ (k _ _ _ _ (k _ _ _ _ (n _ _ _ rfl)))))))
 · exact k _ _ _ _ (k _ _ _ _ (k _ _ _ _ (k _ _ _ _ (k _ _ _ _ (k _ _ _ _ (n _ _ _ (by simp)))))))
 · exact k _ _ _ _ (k _ _ _ _ (k _ _ _ _ (k _ _ _ _ (k _ _ _ _ (n _ _ _ (by simp))))))
 · exact k _ _ _ _ (k _ _ _ _ (k _ _ _ _ (k _ _ _ _ (n _ _ _ (by simp)))))
 · exact k _ _ _ _ (k _ _ _ _ (k _ _ _ _ (n _ _ _ (by simp))))
 · exact k _ _ _ _ (k _ _ _ _ (n _ _ _ (by simp)))
 · exact (((((((((Below.refl _ w).alloc (Nat.le_refl _) _).alloc (by simp) _).alloc (by simp; omega) _).alloc (by simp; omega) _).alloc (by simp; omega) _).alloc (by simp; omega) _).alloc (by simp; omega) _).alloc (by simp; omega) _)
def Putting (w : World) (xs : List Cel) (cf : Conf) (e z : Nat) (p : Bool) (nb : Nat) (pre : List (Spot nb)) (W : World) : Prop :=
 ∃ O I, Blks w e z p O I W ∧ O.size ≤ 2005 * pre.length ∧ I.size ≤ 50 * pre.length ∧ (spots pre = List.range pre.length → O.data.toList = outTo xs cf pre.length ∧ I.data.toList = idxTo xs cf pre.length ∧ ∀ j, j < pre.length → blkAt xs cf j ≠ [])
structure Outs (w : World) (u v x : Value) (W : World) : Prop where
 r4 : Boxed W (w.heap.size + 1) 9 u
 r5 : Boxed W (w.heap.size + 1 + 1) 9 v
 r6 : Boxed W (w.heap.size + 1 + 1 + 1) 4 x
 below : Below w.heap.size w W
 size : w.heap.size + 8 ≤ W.heap.size
theorem Outs.grown {w : World} {u v x : Value} {W W' : World} (h : Outs w u v x W) {row : Option Nat} (hg : W.grownBy W' row) (hr : ∀ j, row = some j → w.heap.size + 8 ≤ j) : Outs w u v x W' := by
 have hne : ∀ j, j < w.heap.size + 8 → some j ≠ row := fun j hj e' => by have := hr j e'.symm; omega
 exact ⟨h.r4.kept hg (hne _ (by omega)), h.r5.kept hg (hne _ (by omega)), h.r6.kept hg (hne _ (by omega)), h.below.grown hg h.below.size (fun k e' => by have := hr k e'; omega), Nat.le_trans h.size hg.size⟩
theorem Outs.set4 {w : World} {u v x : Value} {W : World} (h : Outs w u v x W) (y : Value) : Outs w y v x (W.setCell ⟨w.heap.size + 1, 0, none⟩ y) :=
 ⟨h.r4.set _, h.r5.other (by omega) _, h.r6.other (by omega) _, h.below.setCell (by show w.heap.size ≤ w.heap.size + 1; omega) _, by simpa using h.size⟩
theorem Outs.set5 {w : World} {u v x : Value} {W : World} (h : Outs w u v x W) (y : Value) : Outs w u y x (W.setCell ⟨w.heap.size + 1 + 1, 0, none⟩ y) :=
 ⟨h.r4.other (by omega) _, h.r5.set _, h.r6.other (by omega) _, h.below.setCell (by show w.heap.size ≤ w.heap.size + 1 + 1; omega) _, by simpa using h.size⟩
theorem Outs.set6 {w : World} {u v x : Value} {W : World} (h : Outs w u v x W) (y : Value) : Outs w u v y (W.setCell ⟨w.heap.size + 1 + 1 + 1, 0, none⟩ y) :=
 ⟨h.r4.other (by omega) _, h.r5.other (by omega) _, h.r6.set _, h.below.setCell (by show w.heap.size ≤ w.heap.size + 1 + 1 + 1; omega) _, by simpa using h.size⟩
theorem Blks.outs {w : World} {e z : Nat} {p : Bool} {O I : ByteArray} {W : World} (h : Blks w e z p O I W) : Outs w (.string ⟨#[]⟩) (.string ⟨#[]⟩) (.bool false) W := ⟨h.r4, h.r5, h.r6, h.below, h.size⟩
theorem load_str {w : World} {g : Nat} {s : ByteArray} (h : Boxed w g 9 (.string s)) : (loadVar 9 ⟨g, 0, none⟩).run Try.prog w = .ok (.string s) w := by
 have hc := h.cell
 simp [loadVar, go_sem, hc]
theorem load_tru {w : World} {g : Nat} {b : Bool} (h : Boxed w g 4 (.bool b)) : (loadVar 4 ⟨g, 0, none⟩).run Try.prog w = .ok (.bool b) w := by
 have hc := h.cell
 simp [loadVar, go_sem, hc]
theorem res_thr {P : Program} {fn : Func} {p q r : Tmp} {ty ty2 ty3 : TypeId} {v v2 v3 : Value} (h : fn.results = #[.cell p ty, .cell q ty2, .cell r ty3]) (tmps : Array Value) (w : World) (g g2 g3 : Nat)
   (hp : tmps.getD p undef = .pointer (some ⟨g, 0, none⟩)) (hq : tmps.getD q undef = .pointer (some ⟨g2, 0, none⟩)) (hr : tmps.getD r undef = .pointer (some ⟨g3, 0, none⟩)) (hv : (loadVar ty ⟨g, 0, none⟩).run P w = .ok v w) (hv2 : (loadVar ty2 ⟨g2, 0, none⟩).run P w = .ok v2 w) (hv3 : (loadVar ty3 ⟨g3, 0, none⟩).run P w = .ok v3 w) :
   (results fn tmps).run P w = .ok (.tuple #[v, v2, v3]) w := by
 have hp' : tmps[p]?.getD undef = .pointer (some ⟨g, 0, none⟩) := by simpa using hp
 have hq' : tmps[q]?.getD undef = .pointer (some ⟨g2, 0, none⟩) := by simpa using hq
 have hr' : tmps[r]?.getD undef = .pointer (some ⟨g3, 0, none⟩) := by simpa using hr
 simp [results, h, hp', hq', hr', asAddr, hv, hv2, hv3]
theorem Outs.put {w : World} {u v x : Value} {W : World} (h : Outs w u v x W) (D : Nat) (o : Obj) (hD : w.heap.size + 8 ≤ D) : Outs w u v x (W.putObj D o) := by
 have k : ∀ j, j < w.heap.size + 8 → (W.putObj D o).heap[j]? = W.heap[j]? := fun j hj => World.putObj_heap_other (by omega)
 exact ⟨(k _ (by omega)).trans h.r4, (k _ (by omega)).trans h.r5, (k _ (by omega)).trans h.r6, h.below.trans ⟨rfl, rfl, rfl, by simp [World.putObj], fun j hj => k j (by omega)⟩, by simpa [World.putObj] using h.size⟩
def PutLeft (w : World) (xs : List Cel) (cf : Conf) (e z : Nat) (p : Bool) (nb : Nat) (c : Code) (pre : List (Spot nb)) (W : World) : Prop :=
 c = .ret ∧ Outs w (.string ⟨#[]⟩) (.string ⟨#[]⟩) (.bool false) W ∧ ∃ j, j < nb ∧ blkAt xs cf j = []
theorem wpIn_noPanic {F : Fence} {n : Nat} {P : Program} {c : Code} {Q : Exit → Act → World → Prop} {a : Act} {w : World} (h : c.wpIn F n P (noPanic Q) a w) : c.wpIn F n P Q a w :=
 wpIn_mono h (fun e a w h => by cases e <;> first | exact h | cases h)
theorem two_box (W : World) (x y : Value) (T U j : Nat) (hj : W.heap.size = j) : Boxed ((W.alloc (.cells #[x] T)).alloc (.cells #[y] U)) j T x ∧ Boxed ((W.alloc (.cells #[x] T)).alloc (.cells #[y] U)) (j + 1) U y := by
 subst hj
 exact ⟨(Boxed.new W T x).alloc _, alloc_at2 W _ _⟩
theorem below_keeps {W W' : World} (B : Nat) (h : Below W.heap.size W W') : KeepsFrom B W W' := ⟨h.size, fun k o _ hk _ => (h.block k (Array.getElem?_eq_some_iff.1 hk).1).trans hk⟩

set_option maxRecDepth 100000 in
set_option maxHeartbeats 4000000 in
theorem implPutBlocks_in (a : Option Addr) (g off m c nb : Nat) (xs : List Cel) (e z : Nat) (p : Bool) (cf : Conf) (hcf : (⟨(e : Int), (z : Int), p⟩ : Conf) = cf) (ha : m ≠ 0 → a = some ⟨g, off, none⟩) (hm : m ≤ 60) (hok : cellsOk xs = true) (he1 : 1 ≤ e) (he2 : e ≤ 16) (hz1 : 1 ≤ z) (hz2 : z ≤ 50) (hnb : nBlk xs cf = nb) (w : World) (h : CelRowO w a m c xs) :
   CallsIn Fence.wide 5 Try.prog 25 #[.slice a m c, .agg #[.int .i64 e, .int .i64 z, .bool p]] w fun r w' => Below w.heap.size w w' ∧
     (((∀ j, j < nb → blkAt xs cf j ≠ []) ∧ r = .returned (.tuple #[.string ⟨(outTo xs cf nb).toArray⟩, .string ⟨(idxTo xs cf nb).toArray⟩, .bool true])) ∨ ((∃ j, j < nb ∧ blkAt xs cf j = []) ∧ r = .returned (.tuple #[.string ⟨#[]⟩, .string ⟨#[]⟩, .bool false]))) := by
 have HR := Lib.hid h
 have hnc := h.2.1
 have HF := Lib.hid (fit_ok hok)
 have HOK := Lib.hid hok
 have hzz : cf.size.toNat = z := by rw [← hcf]; simp
 have HZ := Lib.hid hzz
 have HCF := Lib.hid hcf
 have hck : confOk cf = true := by rw [← hcf]; unfold confOk; simp; omega
 have hnb2 : (m + z - 1) / z = nb := by rw [← hnb]; unfold nBlk; rw [hzz, h.1]
 have HKM := Lib.hid (show ∀ k, k < nb → k * z < m ∧ nb ≤ 60 from fun k hk => by
   have h1 := blk_in hck (xs := xs) (j := k) (by rw [hnb]; exact hk)
   have h2 := nblk_le hck (xs := xs)
   rw [hzz, h.1] at h1
   rw [hnb, h.1] at h2
   exact ⟨h1, by omega⟩)
 have HAA := Lib.hid ha
 have HN0 := Lib.hid hnb
 have BN := Lib.hid (blks_new w e z p (.cells #[.slice a m c] 24) (.cells #[.int .i64 z] 3))
 clear h hok hzz hcf hck ha hnb
 refine callsIn_of_wp_marks Try.func25 rfl trivial ?_ rfl
 simp only [Try.ntmps25, List.size_toArray, List.length_cons, List.length_nil, Nat.reduceAdd, Nat.reduceSub, Array.replicate_succ, Array.replicate_zero, List.push_toArray, List.append_toArray, List.nil_append, List.cons_append]
 gi_wp2_with fail
 refine ⟨trivial, ?_⟩
 refine (chunk_at _ _ _ _ _ hz1 _).mono ?_
 rintro e' w' ⟨rfl, rfl⟩
 have BX := Lib.hid (show Boxed _ (w.heap.size + 1 + 1 + 1 + 1 + 1 + 1) 24 (.slice a m c) ∧ Boxed _ (w.heap.size + 1 + 1 + 1 + 1 + 1 + 1 + 1) 3 (.int .i64 z) from
   two_box ((((((w.alloc (.cells #[.int .i64 e, .int .i64 z, .bool p] 28)).alloc (.cells #[.string ⟨#[]⟩] 9)).alloc (.cells #[.string ⟨#[]⟩] 9)).alloc (.cells #[.bool false] 4)).alloc (.cells #[.string ⟨#[]⟩] 9)).alloc (.cells #[.string ⟨#[]⟩] 9)) _ _ _ _ _ (by simp))
 simp only [World.size_alloc]
 obtain ⟨w5, hw5⟩ : ∃ W, (((((((w.alloc (.cells #[.int .i64 e, .int .i64 z, .bool p] 28)).alloc (.cells #[.string ⟨#[]⟩] 9)).alloc (.cells #[.string ⟨#[]⟩] 9)).alloc (.cells #[.bool false] 4)).alloc (.cells #[.string ⟨#[]⟩] 9)).alloc (.cells #[.string ⟨#[]⟩] 9)).alloc (.cells #[.slice a m c] 24)).alloc (.cells #[.int .i64 z] 3) = W := ⟨_, rfl⟩
 have h8 : w5.heap.size = w.heap.size + 8 := by rw [← hw5]; simp
 have H8 := Lib.hid h8
 rw [hw5] at BN BX ⊢
 clear hw5 h8
 gi_wp2_with fail
 refine wpIn_rangeFunc_ownG (α := Spot nb) rfl (by decide) (gf := 75) (lb := #[.pointer (some ⟨w.heap.size + 1 + 1 + 1 + 1 + 1 + 1, 0, none⟩), .pointer (some ⟨w.heap.size + 1 + 1 + 1 + 1 + 1 + 1 + 1, 0, none⟩)]) rfl trivial (enters_of Try.func75 (by kernel_rfl) rfl)
   (chunk_stops 4 _ _ g off a m c z nb HAA.out hz1 hz2 hm hnc hnb2 w5 BX.out.1 BX.out.2) KeptTwo.trans (keptTwo_put (by rw [H8.out]; omega) (by rw [H8.out]; omega)) (Below.refl _ _) (fun _ => rfl)
   (Putting w xs cf e z p nb) (PutLeft w xs cf e z p nb)
   (fun pre X Y row hs hg hr => by
     obtain ⟨O, I, h1, h2⟩ := hs
     exact ⟨O, I, h1.grown hg (fun j e' => by have := (hr j e').1; rw [H8.out] at this; exact this), h2⟩)
   (fun c' pre X Y row hs hg hr => by
     obtain ⟨h0, h1, h2⟩ := hs
     exact ⟨h0, h1.grown hg (fun j e' => by have := (hr j e').1; rw [H8.out] at this; exact this), h2⟩)
   ⟨⟨#[]⟩, ⟨#[]⟩, BN.out, Nat.zero_le _, Nat.zero_le _, fun _ => ⟨rfl, rfl, fun j hj => absurd hj (by simp)⟩⟩
   (fun x => { tmps := #[.slice a m c, .agg #[.int .i64 e, .int .i64 z, .bool p], undef, .pointer (some ⟨w.heap.size, 0, none⟩), .pointer (some ⟨w.heap.size + 1, 0, none⟩), .pointer (some ⟨w.heap.size + 1 + 1, 0, none⟩), .pointer (some ⟨w.heap.size + 1 + 1 + 1, 0, none⟩), .pointer (some ⟨w.heap.size + 1 + 1 + 1 + 1, 0, none⟩), .pointer (some ⟨w.heap.size + 1 + 1 + 1 + 1 + 1, 0, none⟩), chunkV g off m z x.at_, undef, undef, undef, .slice a m c, .pointer (some ⟨w.heap.size, 1, none⟩), .int .i64 z, .func (.func 75) #[] #[.pointer (some ⟨w.heap.size + 1 + 1 + 1 + 1 + 1 + 1, 0, none⟩), .pointer (some ⟨w.heap.size + 1 + 1 + 1 + 1 + 1 + 1 + 1, 0, none⟩)], chunkV g off m z x.at_, undef, undef, undef, undef, undef, undef, undef, undef, undef, undef, undef, undef, undef, undef, undef, undef, undef, undef, undef, undef, undef, undef, undef, undef, undef, undef, undef, undef, undef, undef, undef, undef, undef, undef, undef, undef, undef, undef, undef, undef, undef, undef], defers := [] }) ?assign ?body ?done ?stop
 case assign =>
   intro l x W K hK
   gi_wp2
   exact hK
 case body =>
   rintro l pre ⟨k, hkn⟩ W ⟨O, I, bi, hO, hI, HG⟩ hlt2
   have BI := Lib.hid bi
   have HGG := Lib.hid HG
   have hkm := HKM.out k hkn
   have hln : pre.length ≤ 60 := by omega
   obtain ⟨q, hq⟩ : ∃ q, k * z = q := ⟨_, rfl⟩
   rw [hq] at hkm
   have HQ := Lib.hid hq
   have haa := HAA.out (by omega)
   subst haa
   obtain ⟨L, hL⟩ : ∃ L, min z (m - q) = L := ⟨_, rfl⟩
   have hL1 : 1 ≤ L := by omega
   have hL2 : q + L ≤ m := by omega
   have hL3 : L ≤ 50 := by omega
   have hcv : chunkV g off m z k = .slice (some ⟨g, off + q * 5, none⟩) L L := by unfold chunkV; rw [hq, hL]
   have HPR := Lib.hid (show CelRowO w (some ⟨g, off + q * 5, none⟩) L L (partAt z k xs) by
     have h1 := part_row HR.out hq (E := q + L) (by omega) (by omega)
     rw [Nat.add_sub_cancel_left] at h1
     exact ⟨h1.1, Nat.le_refl _, h1.2.2⟩)
   have HPF := Lib.hid (fit_part HF.out z k)
   obtain ⟨PB, hPB, hPBl⟩ := text_of (putBlock (partAt z k xs) (e : Int))
   have HPB := Lib.hid (as_text hPB)
   obtain ⟨BK, hBK, hBKl⟩ := text_of (wrapB PB.data.toList p)
   have HBK := Lib.hid hBK
   have HBA := Lib.hid (show BK.data.toList = blkAt xs cf k by rw [hBK, hPB]; unfold blkAt; rw [HZ.out, ← HCF.out])
   have hBK2 : BK.size ≤ 2005 := by rw [hBKl]; exact wrap_most _ _
   have HW0 := Lib.hid (show w.heap.size + 8 ≤ W.heap.size from bi.size)
   have HLQ := Lib.hid hL
   simp only [hcv]
   clear hq hL hcv hPB hPBl hBK hBKl bi HG
   gi_wp2_with fail
   have B0 := Lib.hid (show Blks w e z p O I W.drew ∧ Below W.heap.size W W.drew from ⟨BI.out.under (below_draws 1), below_draws 1⟩)
   refine regionI (fun W' => W'.heap[w.heap.size]? = some (.cells #[.int .i64 e, .int .i64 z, .bool p] 28 (0, 0))) none (by kernel_rfl) ?_
   refine takeI (i := 0) (d := some 18) (v := ?_) rfl rfl (by kernel_rfl) (by kernel_rfl) (by kernel_rfl) (by kernel_rfl) (by kernel_rfl) (fun _ _ _ h => h) (by rfl) (fun _ => rfl) ?hy B0.out.1.cfg ?_
   case hy => (intro w' hS; clear hS; go_simp <;> with_reducible rfl)
   simp only [Act.put, sA, sB, sC]
   refine takeI (i := 1) (d := some 19) (v := ?_) rfl rfl (by kernel_rfl) (by kernel_rfl) (by kernel_rfl) (by kernel_rfl) (by kernel_rfl) (fun _ _ _ h => h) (by rfl) (fun _ => rfl) ?hy B0.out.1.cfg ?_
   case hy => (intro w' hS; clear hS; go_simp <;> with_reducible rfl)
   simp only [Act.put, sA, sB, sC]
   refine takeI (i := 2) (d := some 20) (v := ?_) rfl rfl (by kernel_rfl) (by kernel_rfl) (by kernel_rfl) (by kernel_rfl) (by kernel_rfl) (fun _ _ _ h => h) (by rfl) (fun _ => rfl) ?hy B0.out.1.cfg ?_
   case hy => (intro w' hS; obtain ⟨s0, s1, s2⟩ := cfg_three hS; clear hS; go_simp <;> with_reducible rfl)
   simp only [Act.put, sA, sB, sC]
   refine takeI (i := 4) (d := some 22) (v := ?_) rfl rfl (by kernel_rfl) (by kernel_rfl) (by kernel_rfl) (by kernel_rfl) (by kernel_rfl) (fun _ _ _ h => h) (by rfl) (fun _ => rfl) ?hy B0.out.1.cfg ?_
   case hy => (intro w' hS; clear hS; go_simp <;> with_reducible rfl)
   simp only [Act.put, sA, sB, sC]
   refine takeI (i := 5) (d := some 23) (v := ?_) rfl rfl (by kernel_rfl) (by kernel_rfl) (by kernel_rfl) (by kernel_rfl) (by kernel_rfl) (fun _ _ _ h => h) (by rfl) (fun _ => rfl) ?hy B0.out.1.cfg ?_
   case hy => (intro w' hS; obtain ⟨s0, s1, s2⟩ := cfg_three hS; clear hS; go_simp <;> with_reducible rfl)
   simp only [Act.put, sA, sB, sC]
   refine readyI (rs := [3]) (by kernel_rfl) (by simp) ?_
   refine AllReadyInS.cons rfl (fun K hK => ?_) AllReadyInS.nil
   go_simp
   first
     | refine ⟨trivial, (fun h => by cases h), ?_⟩
     | refine ⟨trivial, ?_⟩
   refine (calls_round (implPutBlockO (some ⟨g, off + q * 5, none⟩) L L (partAt z k xs) (e : Int) (by omega) HPF.out _ (HPR.out.below B0.out.1.below))).mono ?_
   rintro r wn ⟨rfl, bn⟩
   rw [HPB.out]
   have B0n := Lib.hid (And.intro (B0.out.1.under bn) (B0.out.2.trans (bn.mono B0.out.2.size)))
   clear bn
   simp only []
   refine hK.out _ _ (fun _ => B0n.out.1.cfg) ?_
   clear hK K
   refine readyI (rs := [6]) (by kernel_rfl) (by simp) ?_
   refine AllReadyInS.cons rfl (fun K hK => ?_) AllReadyInS.nil
   go_simp
   first
     | refine ⟨trivial, (fun h => by cases h), ?_⟩
     | refine ⟨trivial, ?_⟩
   refine (calls_round (implWrap PB BK p HBK.out _)).mono ?_
   rintro r wn ⟨rfl, bn⟩
   have B0nn := Lib.hid (And.intro (B0n.out.1.under bn) (B0n.out.2.trans (bn.mono B0n.out.2.size)))
   clear bn
   simp only []
   refine hK.out _ _ (fun _ => B0nn.out.1.cfg) ?_
   clear hK K
   refine takeI (i := 7) (d := some 10) (v := ?_) rfl rfl (by kernel_rfl) (by kernel_rfl) (by kernel_rfl) (by kernel_rfl) (by kernel_rfl) (fun _ _ _ h => h) (by rfl) (fun _ => rfl) ?hy B0nn.out.1.cfg ?_
   case hy => (intro w' hS; clear hS; go_simp <;> with_reducible rfl)
   simp only [Act.put, sA, sB, sC]
   refine doneI (by kernel_rfl) ?_ _
   have B6 := Lib.hid B0nn.out
   clear B0
   by_cases hbk : BK.data.toList = []
   · have hBe : BK = ⟨#[]⟩ := bytes_ext (by rw [hbk])
     have HE := Lib.hid (show blkAt xs cf k = [] by rw [← HBA.out]; exact hbk)
     subst hBe
     have p4 := B6.out.1.r4.cell
     have p5 := B6.out.1.r5.cell
     have p6 := B6.out.1.r6.cell
     have f4 := B6.out.1.r4.frozen
     have f5 := B6.out.1.r5.frozen
     have f6 := B6.out.1.r6.frozen
     clear hbk
     gi_wp2
     refine ⟨(below_keeps _ B6.out.2).trans ((((KeepsOthers.setCell _ _ _).trans (KeepsOthers.setCell _ _ _)).trans (KeepsOthers.setCell _ _ _)).from _), rfl, ((B6.out.1.outs.set4 _).set5 _).set6 _, k, hkn, HE.out⟩
   · have hbn : BK.toList.isEmpty = false := by
       rw [ByteArray.toList_eq]
       cases h1 : BK.data.toList with
       | nil => exact absurd h1 hbk
       | cons _ _ => rfl
     obtain ⟨j, hj⟩ : ∃ j, L = j + 1 := ⟨L - 1, by omega⟩
     have q1 : (L : Int) - 1 = (j : Int) := by omega
     have q2 : (j : Int) < (L : Int) := by omega
     have q0 : (0 : Int) ≤ (j : Int) := by omega
     obtain ⟨⟨R, C, t, G, V⟩, hx⟩ : ∃ x, xs[q + j]? = some x := ⟨_, List.getElem?_eq_getElem (by rw [HR.out.1]; omega)⟩
     obtain ⟨g', off', hag, k5⟩ := (HR.out.below B6.out.1.below).2.2 (q + j) _ hx
     cases hag
     have hR := (HF.out _ (List.mem_of_getElem? hx)).1
     have hC := (HF.out _ (List.mem_of_getElem? hx)).2.1
     have hckx := cells_ok HOK.out hx
     have HKL := Lib.hid (key_small hckx)
     have HLP := Lib.hid (last_part (z := z) (k := k) HQ.out hx (by rw [HR.out.1]; have := HLQ.out; omega) (by omega))
     rw [show off + (q + j) * 5 = off + q * 5 + j * 5 by omega] at k5
     unfold Cel5O at k5
     obtain ⟨d0, d1, d2, d3, d4⟩ := k5
     have HBN := Lib.hid hbk
     have HJ := Lib.hid hj
     have HXX := Lib.hid hx
     clear hx hckx hbk hj
     have hO2 : O.size ≤ 2005 * 60 := Nat.le_trans hO (Nat.mul_le_mul_left _ hln)
     have hI2 : I.size ≤ 50 * 60 := Nat.le_trans hI (Nat.mul_le_mul_left _ hln)
     gi_wp2_with fail
     refine ⟨trivial, ?_⟩
     refine (calls_round (implKeyOf R C t hR hC _)).mono ?_
     intro r w8 h8
     obtain ⟨Ky, hK, hKz, rfl, b8⟩ := h8.text
     have HK := Lib.hid (show Ky.data.toList = celKey ⟨R, C, t, G, V⟩ from hK)
     have hK38 : Ky.size ≤ 38 := by
       have h1 := HKL.out
       rw [← HK.out] at h1
       simpa using h1
     have bA := (one_below wn (.cells #[.string R, .string C, .int .i64 t, .bool G, .string V] 36)).trans (b8.mono (by simp))
     have B8 := Lib.hid (show Blks w e z p O I w8.drew ∧ Below W.heap.size W w8.drew from ⟨(B6.out.1.under bA).under (below_draws 1), (B6.out.2.trans (bA.mono B6.out.2.size)).trans (below_draws 1)⟩)
     clear h8 hK hKz b8 bA d0 d1 d2 d3 d4 hbn
     obtain ⟨P1, hP1, hP1s⟩ := text_of (varB Ky.size)
     obtain ⟨P2, hP2, hP2s⟩ := text_of (varB O.size)
     obtain ⟨P3, hP3, hP3s⟩ := text_of (varB BK.size)
     have p1s : P1.size ≤ 3 := by rw [hP1s]; exact var_few (by omega)
     have p2s : P2.size ≤ 3 := by rw [hP2s]; exact var_few (by omega)
     have p3s : P3.size ≤ 3 := by rw [hP3s]; exact var_few (by omega)
     have HP1 := Lib.hid (show P1.data.toList = putVar (Ky.size : Int) by rw [hP1, putVar_in (by omega)])
     have HP2 := Lib.hid (show P2.data.toList = putVar (O.size : Int) by rw [hP2, putVar_in (by omega)])
     have HP3 := Lib.hid (show P3.data.toList = putVar (BK.size : Int) by rw [hP3, putVar_in (by omega)])
     have HV := Lib.hid (And.intro hP1 (And.intro hP2 hP3))
     clear hP1 hP2 hP3 hP1s hP2s hP3s
     have v1 : ¬ 9223372036854775807 < P1.size + Ky.size := by omega
     have v2 : ¬ 9223372036854775807 < P1.size + Ky.size + P2.size := by omega
     have v3 : ¬ 9223372036854775807 < P1.size + Ky.size + P2.size + P3.size := by omega
     have v4 : ¬ 9223372036854775807 < I.size + (P1.size + Ky.size + P2.size + P3.size) := by omega
     have v5 : ¬ 9223372036854775807 < O.size + BK.size := by omega
     gi_wp2_with fail
     refine regionI (fun W' => Boxed W' (w.heap.size + 1 + 1 + 1 + 1) 9 (.string O) ∧ Boxed W' (w.heap.size + 1 + 1 + 1 + 1 + 1) 9 (.string I)) (some 15) (by kernel_rfl) ?_
     refine takeI (i := 0) (d := some 40) (v := ?_) rfl rfl (by kernel_rfl) (by kernel_rfl) (by kernel_rfl) (by kernel_rfl) (by kernel_rfl) (fun _ _ _ h => h) (by rfl) (fun _ => rfl) ?hy ⟨B8.out.1.x7, B8.out.1.x8⟩ ?_
     case hy => (intro w' hS; have bc := hS.2.cell; clear hS; go_simp <;> with_reducible rfl)
     simp only [Act.put, sA, sB, sC]
     refine takeI (i := 1) (d := some 41) (v := ?_) rfl rfl (by kernel_rfl) (by kernel_rfl) (by kernel_rfl) (by kernel_rfl) (by kernel_rfl) (fun _ _ _ h => h) (by rfl) (fun _ => rfl) ?hy ⟨B8.out.1.x7, B8.out.1.x8⟩ ?_
     case hy => (intro w' hS; clear hS; go_simp <;> with_reducible rfl)
     simp only [Act.put, sA, sB, sC]
     refine takeI (i := 2) (d := some 42) (v := ?_) rfl rfl (by kernel_rfl) (by kernel_rfl) (by kernel_rfl) (by kernel_rfl) (by kernel_rfl) (fun _ _ _ h => h) (by rfl) (fun _ => rfl) ?hy ⟨B8.out.1.x7, B8.out.1.x8⟩ ?_
     case hy => (intro w' hS; clear hS; go_simp <;> with_reducible rfl)
     simp only [Act.put, sA, sB, sC]
     refine takeI (i := 4) (d := some 44) (v := ?_) rfl rfl (by kernel_rfl) (by kernel_rfl) (by kernel_rfl) (by kernel_rfl) (by kernel_rfl) (fun _ _ _ h => h) (by rfl) (fun _ => rfl) ?hy ⟨B8.out.1.x7, B8.out.1.x8⟩ ?_
     case hy => (intro w' hS; clear hS; go_simp <;> with_reducible rfl)
     simp only [Act.put, sA, sB, sC]
     refine takeI (i := 6) (d := some 46) (v := ?_) rfl rfl (by kernel_rfl) (by kernel_rfl) (by kernel_rfl) (by kernel_rfl) (by kernel_rfl) (fun _ _ _ h => h) (by rfl) (fun _ => rfl) ?hy ⟨B8.out.1.x7, B8.out.1.x8⟩ ?_
     case hy => (intro w' hS; have bc := hS.1.cell; clear hS; go_simp <;> with_reducible rfl)
     simp only [Act.put, sA, sB, sC]
     refine takeI (i := 7) (d := some 47) (v := ?_) rfl rfl (by kernel_rfl) (by kernel_rfl) (by kernel_rfl) (by kernel_rfl) (by kernel_rfl) (fun _ _ _ h => h) (by rfl) (fun _ => rfl) ?hy ⟨B8.out.1.x7, B8.out.1.x8⟩ ?_
     case hy => (intro w' hS; clear hS; go_simp <;> with_reducible rfl)
     simp only [Act.put, sA, sB, sC]
     refine takeI (i := 10) (d := some 50) (v := ?_) rfl rfl (by kernel_rfl) (by kernel_rfl) (by kernel_rfl) (by kernel_rfl) (by kernel_rfl) (fun _ _ _ h => h) (by rfl) (fun _ => rfl) ?hy ⟨B8.out.1.x7, B8.out.1.x8⟩ ?_
     case hy => (intro w' hS; clear hS; go_simp <;> with_reducible rfl)
     simp only [Act.put, sA, sB, sC]
     refine takeI (i := 11) (d := some 51) (v := ?_) rfl rfl (by kernel_rfl) (by kernel_rfl) (by kernel_rfl) (by kernel_rfl) (by kernel_rfl) (fun _ _ _ h => h) (by rfl) (fun _ => rfl) ?hy ⟨B8.out.1.x7, B8.out.1.x8⟩ ?_
     case hy => (intro w' hS; clear hS; go_simp <;> with_reducible rfl)
     simp only [Act.put, sA, sB, sC]
     refine readyI (rs := [3]) (by kernel_rfl) (by simp) ?_
     refine AllReadyInS.cons rfl (fun K hK => ?_) AllReadyInS.nil
     go_simp
     first
       | refine ⟨trivial, (fun h => by cases h), ?_⟩
       | refine ⟨trivial, ?_⟩
     refine (calls_round (implPutVar_as (Ky.size : Int) P1 HP1.out _)).mono ?_
     rintro r wn ⟨rfl, bn⟩
     have B8n := Lib.hid (And.intro (B8.out.1.under bn) (B8.out.2.trans (bn.mono B8.out.2.size)))
     clear bn
     simp only []
     refine hK.out _ _ (fun _ => ⟨B8n.out.1.x7, B8n.out.1.x8⟩) ?_
     clear hK K
     refine takeI (i := 5) (d := some 45) (v := ?_) rfl rfl (by kernel_rfl) (by kernel_rfl) (by kernel_rfl) (by kernel_rfl) (by kernel_rfl) (fun _ _ _ h => h) (by rfl) (fun _ => rfl) ?hy ⟨B8n.out.1.x7, B8n.out.1.x8⟩ ?_
     case hy => (intro w' hS; clear hS; go_simp <;> with_reducible rfl)
     simp only [Act.put, sA, sB, sC]
     refine readyI (rs := [8]) (by kernel_rfl) (by simp) ?_
     refine AllReadyInS.cons rfl (fun K hK => ?_) AllReadyInS.nil
     go_simp
     first
       | refine ⟨trivial, (fun h => by cases h), ?_⟩
       | refine ⟨trivial, ?_⟩
     refine (calls_round (implPutVar_as (O.size : Int) P2 HP2.out _)).mono ?_
     rintro r wn ⟨rfl, bn⟩
     have B8nn := Lib.hid (And.intro (B8n.out.1.under bn) (B8n.out.2.trans (bn.mono B8n.out.2.size)))
     clear bn
     simp only []
     refine hK.out _ _ (fun _ => ⟨B8nn.out.1.x7, B8nn.out.1.x8⟩) ?_
     clear hK K
     refine takeI (i := 9) (d := some 49) (v := ?_) rfl rfl (by kernel_rfl) (by kernel_rfl) (by kernel_rfl) (by kernel_rfl) (by kernel_rfl) (fun _ _ _ h => h) (by rfl) (fun _ => rfl) ?hy ⟨B8nn.out.1.x7, B8nn.out.1.x8⟩ ?_
     case hy => (intro w' hS; clear hS; go_simp <;> with_reducible rfl)
     simp only [Act.put, sA, sB, sC]
     refine readyI (rs := [12]) (by kernel_rfl) (by simp) ?_
     refine AllReadyInS.cons rfl (fun K hK => ?_) AllReadyInS.nil
     go_simp
     first
       | refine ⟨trivial, (fun h => by cases h), ?_⟩
       | refine ⟨trivial, ?_⟩
     refine (calls_round (implPutVar_as (BK.size : Int) P3 HP3.out _)).mono ?_
     rintro r wn ⟨rfl, bn⟩
     have B8nnn := Lib.hid (And.intro (B8nn.out.1.under bn) (B8nn.out.2.trans (bn.mono B8nn.out.2.size)))
     clear bn
     simp only []
     refine hK.out _ _ (fun _ => ⟨B8nnn.out.1.x7, B8nnn.out.1.x8⟩) ?_
     clear hK K
     refine takeI (i := 13) (d := some 53) (v := ?_) rfl rfl (by kernel_rfl) (by kernel_rfl) (by kernel_rfl) (by kernel_rfl) (by kernel_rfl) (fun _ _ _ h => h) (by rfl) (fun _ => rfl) ?hy ⟨B8nnn.out.1.x7, B8nnn.out.1.x8⟩ ?_
     case hy => (intro w' hS; clear hS; go_simp <;> with_reducible rfl)
     simp only [Act.put, sA, sB, sC]
     refine takeI (i := 14) (d := some 54) (v := ?_) rfl rfl (by kernel_rfl) (by kernel_rfl) (by kernel_rfl) (by kernel_rfl) (by kernel_rfl) (fun _ _ _ h => h) (by rfl) (fun _ => rfl) ?hy ⟨B8nnn.out.1.x7, B8nnn.out.1.x8⟩ ?_
     case hy => (intro w' hS; clear hS; go_simp <;> with_reducible rfl)
     simp only [Act.put, sA, sB, sC]
     refine readyI (rs := [15]) (by kernel_rfl) (by simp) ?_
     refine AllReadyInS.cons rfl (fun K hK => ?_) AllReadyInS.nil
     have bc := B8nnn.out.1.x8.cell
     have bf := B8nnn.out.1.x8.frozen
     go_simp
     refine hK.out _ _ (fun h => absurd rfl h) ?_
     clear hK K
     refine doneI (by kernel_rfl) ?_ _
     have B9 := Lib.hid B8nnn.out
     have c7 := (B9.out.1.set8 (I ++ (P1 ++ Ky ++ P2 ++ P3))).x7.cell
     have f7 := (B9.out.1.set8 (I ++ (P1 ++ Ky ++ P2 ++ P3))).x7.frozen
     gi_wp2
     have hW0 := HW0.out
     refine ⟨(below_keeps _ B9.out.2).trans (((KeepsOthers.setCell _ _ _).trans (KeepsOthers.setCell _ _ _)).from _), ⟨?_, ?_⟩, O ++ BK, I ++ (P1 ++ Ky ++ P2 ++ P3), (B9.out.1.set8 _).set7 _, ?_, ?_, fun hsp => ?_⟩
     · exact ((Below.heap_setCell _ _ _ _ (by show w.heap.size + 1 + 1 + 1 + 1 + 1 + 1 ≠ w.heap.size + 1 + 1 + 1 + 1; omega)).trans (Below.heap_setCell _ _ _ _ (by show w.heap.size + 1 + 1 + 1 + 1 + 1 + 1 ≠ w.heap.size + 1 + 1 + 1 + 1 + 1; omega))).trans (B9.out.2.block _ (by omega))
     · exact ((Below.heap_setCell _ _ _ _ (by show w.heap.size + 1 + 1 + 1 + 1 + 1 + 1 + 1 ≠ w.heap.size + 1 + 1 + 1 + 1; omega)).trans (Below.heap_setCell _ _ _ _ (by show w.heap.size + 1 + 1 + 1 + 1 + 1 + 1 + 1 ≠ w.heap.size + 1 + 1 + 1 + 1 + 1; omega))).trans (B9.out.2.block _ (by omega))
     · rw [ByteArray.size_append, List.length_append]; simp only [List.length_cons, List.length_nil]; omega
     · simp only [ByteArray.size_append, List.length_append, List.length_cons, List.length_nil]; omega
     · rw [spots_snoc, List.length_append, List.length_singleton, List.range_succ] at hsp
       obtain ⟨s1, s2⟩ := List.append_inj' hsp rfl
       have hk : k = pre.length := by simpa using s2
       obtain ⟨t1, t2, t3⟩ := HGG.out s1
       rw [List.length_append, List.length_singleton, ← hk]
       rw [← hk] at t1 t2 t3
       refine ⟨?_, ?_, ?_⟩
       · rw [ByteArray.data_append, Array.toList_append, t1, HBA.out]
         rfl
       · simp only [ByteArray.data_append, Array.toList_append, List.append_assoc]
         rw [t2, HV.out.1, HV.out.2.1, HV.out.2.2, HK.out]
         have e1 : Ky.size = (celKey ⟨R, C, t, G, V⟩).length := by rw [← HK.out]; simp
         have e2 : O.size = (outTo xs cf k).length := by rw [← t1]; simp
         have e3 : BK.size = (blkAt xs cf k).length := by rw [← HBA.out]; simp
         rw [e1, e2, e3]
         rw [show idxTo xs cf (k + 1) = idxTo xs cf k ++ idxAt xs cf k from rfl]
         unfold idxAt
         rw [HZ.out, HLP.out]
       · intro i hi
         by_cases hik : i < k
         · exact t3 i hik
         · obtain rfl : i = k := by omega
           rw [← HBA.out]
           exact HBN.out
 case done =>
   rintro D ys W hD hys ⟨O, I, bi, hO, hI, HG⟩ hK
   have hyl : ys.length = nb := by rw [← spots_len, hys, List.length_range]
   obtain ⟨t1, t2, t3⟩ := HG (by rw [hys, hyl])
   rw [hyl] at t1 t2 t3
   have BI := Lib.hid bi
   have HT := Lib.hid (And.intro t1 (And.intro t2 t3))
   have HK := Lib.hid hK
   have HDD := Lib.hid (show w.heap.size + 8 ≤ D by rw [← H8.out]; exact hD)
   have Y0 := Lib.hid (show Outs w (.string ⟨#[]⟩) (.string ⟨#[]⟩) (.bool false) W.drew ∧ Boxed W.drew (w.heap.size + 1 + 1 + 1 + 1) 9 (.string O) ∧ Boxed W.drew (w.heap.size + 1 + 1 + 1 + 1 + 1) 9 (.string I) from ⟨(bi.under (below_draws 1)).outs, bi.x7, bi.x8⟩)
   obtain ⟨Wd, hWd⟩ : ∃ X, W.drew = X := ⟨_, rfl⟩
   have HKD := Lib.hid (show Wd.heap[D]? = some (.deferred (some [])) by rw [← hWd]; exact hK)
   rw [hWd] at Y0
   clear bi hO hI HG hK hys hyl t1 t2 t3
   gi_wp2_with fail
   refine wpIn_noPanic ?_
   refine regionI (fun W' => Boxed W' (w.heap.size + 1 + 1 + 1 + 1) 9 (.string O) ∧ Boxed W' (w.heap.size + 1 + 1 + 1 + 1 + 1) 9 (.string I)) (some 4) (by kernel_rfl) ?_
   rw [hWd]
   refine takeI (i := 0) (d := some 58) (v := ?_) rfl rfl (by kernel_rfl) (by kernel_rfl) (by kernel_rfl) (by kernel_rfl) (by kernel_rfl) (fun _ _ _ h => h) (by rfl) (fun _ => rfl) ?hy ⟨Y0.out.2.1, Y0.out.2.2⟩ ?_
   case hy => (intro w' hS; have bc := hS.1.cell; clear hS; go_simp <;> with_reducible rfl)
   simp only [Act.put, sA, sB, sC]
   refine takeI (i := 1) (d := some 59) (v := ?_) rfl rfl (by kernel_rfl) (by kernel_rfl) (by kernel_rfl) (by kernel_rfl) (by kernel_rfl) (fun _ _ _ h => h) (by rfl) (fun _ => rfl) ?hy ⟨Y0.out.2.1, Y0.out.2.2⟩ ?_
   case hy => (intro w' hS; have bc := hS.2.cell; clear hS; go_simp <;> with_reducible rfl)
   simp only [Act.put, sA, sB, sC]
   refine readyI (rs := [2]) (by kernel_rfl) (by simp) ?_
   refine AllReadyInS.cons rfl (fun K hK => ?_) AllReadyInS.nil
   have sc := Y0.out.1.r4.cell
   have sf := Y0.out.1.r4.frozen
   go_simp
   have Y0n := Lib.hid (And.intro (Y0.out.1.set4 (.string O)) (And.intro (Y0.out.2.1.other (show w.heap.size + 1 + 1 + 1 + 1 ≠ w.heap.size + 1 by omega) (.string O)) (Y0.out.2.2.other (show w.heap.size + 1 + 1 + 1 + 1 + 1 ≠ w.heap.size + 1 by omega) (.string O))))
   clear sc sf
   refine hK.out _ _ (fun _ => ⟨Y0n.out.2.1, Y0n.out.2.2⟩) ?_
   clear hK K
   refine readyI (rs := [3]) (by kernel_rfl) (by simp) ?_
   refine AllReadyInS.cons rfl (fun K hK => ?_) AllReadyInS.nil
   have sc := Y0n.out.1.r5.cell
   have sf := Y0n.out.1.r5.frozen
   go_simp
   have Y0nn := Lib.hid (And.intro (Y0n.out.1.set5 (.string I)) (And.intro (Y0n.out.2.1.other (show w.heap.size + 1 + 1 + 1 + 1 ≠ w.heap.size + 1 + 1 by omega) (.string I)) (Y0n.out.2.2.other (show w.heap.size + 1 + 1 + 1 + 1 + 1 ≠ w.heap.size + 1 + 1 by omega) (.string I))))
   clear sc sf
   refine hK.out _ _ (fun _ => ⟨Y0nn.out.2.1, Y0nn.out.2.2⟩) ?_
   clear hK K
   refine readyI (rs := [4]) (by kernel_rfl) (by simp) ?_
   refine AllReadyInS.cons rfl (fun K hK => ?_) AllReadyInS.nil
   have sc := Y0nn.out.1.r6.cell
   have sf := Y0nn.out.1.r6.frozen
   go_simp
   have Y0nnn := Lib.hid (And.intro (Y0nn.out.1.set6 (.bool true)) (And.intro (Y0nn.out.2.1.other (show w.heap.size + 1 + 1 + 1 + 1 ≠ w.heap.size + 1 + 1 + 1 by omega) (.bool true)) (Y0nn.out.2.2.other (show w.heap.size + 1 + 1 + 1 + 1 + 1 ≠ w.heap.size + 1 + 1 + 1 by omega) (.bool true))))
   clear sc sf
   refine hK.out _ _ (fun h => absurd rfl h) ?_
   clear hK K
   refine doneI (by kernel_rfl) ?_ _
   rw [noPanic_normal]
   have YE := Lib.hid Y0nnn.out.1
   have hKD : (((Wd.setCell ⟨w.heap.size + 1, 0, none⟩ (.string O)).setCell ⟨w.heap.size + 1 + 1, 0, none⟩ (.string I)).setCell ⟨w.heap.size + 1 + 1 + 1, 0, none⟩ (.bool true)).heap[D]? = some (.deferred (some [])) := by
     have := HDD.out
     exact (Below.heap_setCell _ _ _ _ (by show D ≠ w.heap.size + 1 + 1 + 1; omega)).trans ((Below.heap_setCell _ _ _ _ (by show D ≠ w.heap.size + 1 + 1; omega)).trans ((Below.heap_setCell _ _ _ _ (by show D ≠ w.heap.size + 1; omega)).trans HKD.out))
   gi_wp2
   have q := YE.out.put D (.deferred none) HDD.out
   refine ⟨by simp, .inl ⟨_, _, rfl, run_takeDeferred hKD, _, res_thr Try.results25 _ _ _ _ _ rfl rfl rfl (load_str q.r4) (load_str q.r5) (load_tru q.r6), q.below, .inl ⟨HT.out.2.2, by rw [← HT.out.1, ← HT.out.2.1]⟩⟩⟩
 case stop =>
   rintro D c' pre W hD hp ⟨rfl, ho, hj⟩ hK
   have HO := Lib.hid ho
   have HDD := Lib.hid (show w.heap.size + 8 ≤ D by rw [← H8.out]; exact hD)
   gi_wp2
   have q := HO.out.put D (.deferred none) HDD.out
   refine ⟨by simp, .inl ⟨_, _, rfl, run_takeDeferred hK, _, res_thr Try.results25 _ _ _ _ _ rfl rfl rfl (load_str q.r4) (load_str q.r5) (load_tru q.r6), q.below, .inr ⟨hj, rfl⟩⟩⟩
end Go.Proofs.Ytkomnnijnggbpaa
