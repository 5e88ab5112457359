/- The model's GetTable. -/
import Derived.Test.YtkomnnijnggbpaaGreatDoorBlkTabS
import Derived.Test.YtkomnnijnggbpaaGreatDoorZ10
import Derived.Deep.CutRange
namespace Go.Proofs.YtkomnnijnggbpaaGreatDoor
open Go.RowKit
set_option linter.unusedVariables false

def confV (c : Conf) : Value := .agg #[.int .i64 c.every, .int .i64 c.size, .bool c.pack]
def TabOut (w : World) (l : List UInt8) (e : Ending) (w' : World) : Prop :=
 ∃ v xs c k, e = .returned (.tuple #[v, confV c, .int .i64 ((k : Nat) : Int)]) ∧ Tab l xs c k ∧ OwnC w.heap.size w' v xs ∧ Below w.heap.size w w'
theorem res_three {P : Program} {fn : Func} {p q r : Tmp} {ty : TypeId} {v1 v3 : Value} (h : fn.results = #[.tmp p, .cell q ty, .tmp r]) (tmps : Array Value) (w : World) (g : Nat) (t : TypeId) (cs : Array Value) (fr : Nat × Nat) (d : TypeDesc)
   (hp : tmps.getD p undef = v1) (hr : tmps.getD r undef = v3) (hq : tmps.getD q undef = .pointer (some ⟨g, 0, none⟩)) (hg : w.heap[g]? = some (.cells cs t fr))
   (hu : P.underlying ty = some d) (hd : (match d with | .struct _ | .array _ _ => true | _ => false) = true) (hi : (P.info? ty).map (·.size) = some cs.size) :
   (results fn tmps).run P w = .ok (.tuple #[v1, .agg cs, v3]) w := by
 have hp' : tmps[p]?.getD undef = v1 := by simpa using hp
 have hr' : tmps[r]?.getD undef = v3 := by simpa using hr
 have hq' : tmps[q]?.getD undef = .pointer (some ⟨g, 0, none⟩) := by simpa using hq
 simp [results, h, hp', hq', hr', asAddr, run_loadVar_row w g t ty cs fr d hg hu hd hi]
theorem sizeConf : (Tryz.prog.info? 26).map (·.size) = some 3 := by kernel_rfl

theorem own_parts {B : Nat} {w : World} {v : Value} {ys : List Cel} (h : OwnC B w v ys) : ∃ ad cp, v = .slice ad ys.length cp ∧ (ad = none → ys = [] ∧ cp = 0) ∧ ys.length ≤ cp := by
 rcases h.2 with ⟨h0, hn⟩ | ⟨g, cap, cur, h1, _, _, hc, _⟩
 · exact ⟨none, 0, by rw [h0, hn], fun _ => ⟨List.eq_nil_of_length_eq_zero hn, rfl⟩, by omega⟩
 · exact ⟨_, _, h1, (fun h => by cases h), hc⟩
theorem own_cells {B : Nat} {w : World} {ad : Addr} {n c : Nat} {ys : List Cel} (h : OwnC B w (.slice (some ad) n c) ys) : ∀ j u, (ys.flatMap celCells)[j]? = some u → w.cell? (ad.add j) = some u := by
 intro j u hj
 rcases h.2 with ⟨h0, _⟩ | ⟨g, cap, cur, h1, _, h3, hc, _, hs, ht⟩
 · cases h0
 · cases h1
   have e : (⟨g, 0, none⟩ : Addr).add j = ⟨g, j, none⟩ := by
     unfold Addr.add; split
     · subst_vars; rfl
     · simp
   have hl := (List.getElem?_eq_some_iff.1 hj).1
   have hl2 := celCells_len ys
   rw [e]
   rw [← ht, List.getElem?_take, if_pos (by omega)] at hj
   simp only [World.cell?, h3]
   simpa using hj
theorem op_pushN {act : Act} {w : World} {K : Act → World → Prop} {Q : Exit → Act → World → Prop} {o : Oper} (s x : Operand) {a : Option Addr} {n c : Nat}
   (hop : o.op = .call { callee := .builtin .append, args := #[s, x], argTypes := #[24, 24] })
   (hs : act.eval s = .slice a n c) (hx : act.eval x = .slice none 0 0) (hc : n ≤ c) (hk : K (act.put o.dst (.slice a n c)) w) : o.wp Tryz.prog act w K Q := by
 obtain ⟨ti, hti, hz0, hz1, hz2⟩ := info_parts infoCel
 have hu : (underlying 24).run Tryz.prog w = .ok (.slice 41) w := run_underlying Tryz.underlying24 w
 have hrun : (Builtin.append_ #[24, 24] o.type #[.slice a n c, .slice none 0 0]).run Tryz.prog w = .ok (.slice a n c) w := by
   cases a <;> simp [Builtin.append_, hu, sizeOf, typeInfo, hti, Builtin.lenOf, hc, Builtin.firstCells, storeCells]
 unfold Oper.wp
 simp [execOp, hop, resolve, invoke, builtin, hs, hx, hrun, Result.andThen]
 exact hk
def TwoAt (w : World) (bx ev sz : Nat) (pk : Bool) (W : World) : Prop :=
 W.heap[bx]? = some (.cells #[.int .i64 ev, .int .i64 sz, .bool pk] 26 (0, 0)) ∧ W.heap[w.heap.size]? = some (.cells #[.int .i64 0, .int .i64 0, .bool false] 26 (0, 0))
theorem TwoAt.below {w W W' : World} {bx ev sz : Nat} {pk : Bool} (h : TwoAt w bx ev sz pk W) (hb : Below W.heap.size W W') : TwoAt w bx ev sz pk W' :=
 ⟨(hb.block _ (Array.getElem?_eq_some_iff.1 h.1).1).trans h.1, (hb.block _ (Array.getElem?_eq_some_iff.1 h.2).1).trans h.2⟩
theorem own_apart {B b T : Nat} {w : World} {v : Value} {ys : List Cel} {cs : Array Value} {fz : Nat × Nat} (h : OwnC B w v ys) (hb : w.heap[b]? = some (.cells cs T fz)) (hT : T ≠ 41) : some b ≠ v.ownBlock := by
 intro e
 rcases h.2 with ⟨h0, _⟩ | ⟨g, cap, cur, h1, _, h3, _⟩
 · rw [h0] at e
   simp [Value.ownBlock] at e
 · rw [h1] at e
   obtain rfl : b = g := by simpa [Value.ownBlock] using e
   rw [hb] at h3
   simp at h3
   exact hT h3.2.1
theorem TwoAt.row {w W W' : World} {bx ev sz B : Nat} {pk : Bool} {v : Value} {ys : List Cel} (h : TwoAt w bx ev sz pk W) (o : OwnC B W v ys) (hg : W.grownBy W' v.ownBlock) : TwoAt w bx ev sz pk W' :=
 ⟨(hg.block _ (Array.getElem?_eq_some_iff.1 h.1).1 (own_apart o h.1 (by decide))).trans h.1, (hg.block _ (Array.getElem?_eq_some_iff.1 h.2).1 (own_apart o h.2 (by decide))).trans h.2⟩
theorem TwoAt.conf {w W : World} {bx ev sz : Nat} {pk : Bool} (h : TwoAt w bx ev sz pk W) : ConfAt W bx ev sz pk := ⟨by simp [World.cell?, h.1], by simp [World.cell?, h.1], by simp [World.cell?, h.1]⟩
theorem blk_three {w : World} {g T : Nat} {a b c : Value} (h : w.heap[g]? = some (.cells #[a, b, c] T (0, 0))) : w.cell? ⟨g, 0, none⟩ = some a ∧ w.cell? ⟨g, 1, none⟩ = some b ∧ w.cell? ⟨g, 2, none⟩ = some c ∧ w.frozen? ⟨g, 0, none⟩ = false ∧ w.frozen? ⟨g, 1, none⟩ = false ∧ w.frozen? ⟨g, 2, none⟩ = false :=
 ⟨by simp [World.cell?, h], by simp [World.cell?, h], by simp [World.cell?, h], by simp [World.frozen?, h], by simp [World.frozen?, h], by simp [World.frozen?, h]⟩
theorem set_three {w : World} {g T : Nat} {a b c : Value} (h : w.heap[g]? = some (.cells #[a, b, c] T (0, 0))) (x y z : Value) :
   (((w.setCell ⟨g, 0, none⟩ x).setCell ⟨g, 1, none⟩ y).setCell ⟨g, 2, none⟩ z).heap[g]? = some (.cells #[x, y, z] T (0, 0)) := by
 have h1 := set_block (k := 0) x h
 have h2 := set_block (k := 1) y h1
 have h3 := set_block (k := 2) z h2
 exact h3
theorem own_set {B b T : Nat} {w : World} {v : Value} {ys : List Cel} {cs : Array Value} {fz : Nat × Nat} (h : OwnC B w v ys) (hb : w.heap[b]? = some (.cells cs T fz)) (hT : T ≠ 41) (k : Nat) (x : Value) : OwnC B (w.setCell ⟨b, k, none⟩ x) v ys :=
 World.ownsRow.kept h (row := some b) ⟨rfl, rfl, rfl, by simp, fun j _ hj => Below.heap_setCell _ _ _ j (fun e => hj (by rw [e]))⟩ (.inr (fun e => own_apart h hb hT (by rw [← e])))
theorem own_three {B b T : Nat} {w : World} {v : Value} {ys : List Cel} {p q r : Value} (h : OwnC B w v ys) (hb : w.heap[b]? = some (.cells #[p, q, r] T (0, 0))) (hT : T ≠ 41) (x y z : Value) : OwnC B (((w.setCell ⟨b, 0, none⟩ x).setCell ⟨b, 1, none⟩ y).setCell ⟨b, 2, none⟩ z) v ys :=
 own_set (own_set (own_set h hb hT 0 x) (set_block (k := 0) x hb) hT 1 y) (set_block (k := 1) y (set_block (k := 0) x hb)) hT 2 z
theorem getFix_nat {l : List UInt8} {a : Int} (h0 : 0 ≤ a) (h : a + 4 ≤ l.length) : ∃ n : Nat, getFix l a 4 = (n : Int) ∧ n < 4294967296 := by
 unfold getFix
 rw [if_pos ⟨by omega, by omega, h0, h⟩]
 refine ⟨_, rfl, ?_⟩
 have := fixVal_lt ((l.drop a.toNat).take (4 : Int).toNat)
 have h2 : ((l.drop a.toNat).take (4 : Int).toNat).length ≤ 4 := by rw [List.length_take]; exact Nat.min_le_left _ _
 exact Nat.lt_of_lt_of_le this (Nat.pow_le_pow_right (by omega) (by omega : 8 * _ ≤ 32))
def Reads (l : List UInt8) (r : List Cel) (nx : Int) : Prop := ∀ ys d, tabOk ys d → tableB ys d = l → ∃ k, k ≤ nBlk ys d ∧ r = ys.take (k * d.size.toNat) ∧ nx = ((idxTo ys d k).length : Int)
theorem reads_start (l : List UInt8) : Reads l [] 0 := fun ys d _ _ => ⟨0, Nat.zero_le _, by simp, rfl⟩
theorem reads_index {s I : List UInt8} {fr le : Nat} (hfr : getFix s ((s.length : Int) - 38) 4 = fr) (hle : getFix s ((s.length : Int) - 38 + 4) 4 = le) :
   ∀ ys d, tabOk ys d → tableB ys d = s → fr + le ≤ s.length ∧ unwrapB ((s.drop fr).take le) = (idxTo ys d (nBlk ys d), 0) := by
 intro ys d hT hs
 subst hs
 obtain ⟨h1, h2, _⟩ := foot_reads ys d hT _ rfl
 rw [h1] at hfr
 rw [h2] at hle
 have e1 : fr = (outB ys d).length := by omega
 have e2 : le = (topB ys d).length := by omega
 rw [e1, e2, top_at, top_read hT]
 have := table_len ys d
 exact ⟨by omega, rfl⟩
theorem reads_step {s I : List UInt8} {r r2 : List Cel} {a : Nat} {nx2 : Int} {ev : Int} (hi : ∀ ys d, tabOk ys d → tableB ys d = s → I = idxTo ys d (nBlk ys d) ∧ ev = d.every) (h : Reads s r a) (ha : a < I.length) (ht : ∀ zs b, EntTold s I a ev zs b → r2 = zs ∧ nx2 = (b : Int)) : Reads s (r ++ r2) nx2 := by
 intro ys d hT hs
 obtain ⟨k, hk, hr, hx⟩ := h ys d hT hs
 obtain ⟨hI, he⟩ := hi ys d hT hs
 have hkn : k < nBlk ys d := by
   by_cases e : k = nBlk ys d
   · rw [e, ← hI] at hx
     omega
   · omega
 have h2 := told_at hT hkn
 rw [hs, ← hI, ← he] at h2
 have e1 : (idxTo ys d k).length = a := by omega
 rw [e1] at h2
 obtain ⟨g1, g2⟩ := ht _ _ h2
 exact ⟨k + 1, by omega, by rw [hr, g1, take_part], g2⟩
theorem reads_end {s I : List UInt8} {r : List Cel} {nx : Int} (hi : ∀ ys d, tabOk ys d → tableB ys d = s → I = idxTo ys d (nBlk ys d)) (h : Reads s r nx) (hx : nx < 0 ∨ (I.length : Int) ≤ nx ∨ 60 < r.length) : ∀ ys d, tabOk ys d → tableB ys d = s → r = ys := by
 intro ys d hT hs
 obtain ⟨k, hk, hr, hn⟩ := h ys d hT hs
 have hI := hi ys d hT hs
 have h60 : r.length ≤ 60 := by
   rw [hr, List.length_take]
   have := hT.1
   omega
 have hkn : k = nBlk ys d := by
   by_cases e : k = nBlk ys d
   · exact e
   · have := idx_mono ys d (show k < nBlk ys d by omega)
     rw [← hI] at this
     omega
 rw [hr, hkn, List.take_of_length_le (nblk_all hT.2.2.1)]
theorem tab_is {s : List UInt8} {r : List Cel} {c : Conf} (hne : s ≠ []) (h : putTable r c = s) : Tab s r c 0 := by
 unfold putTable at h
 split at h
 · exact .inl ⟨rfl, by assumption, h⟩
 · exact absurd h.symm hne
theorem tab_isnt {s : List UInt8} {r : List Cel} {c : Conf} (he : endsRight s) (h : putTable r c ≠ s) (hr : ∀ ys d, tabOk ys d → tableB ys d = s → r = ys ∧ c = d) : Tab s [] zeroConf 2 :=
 tab_form he (fun ys d hT hs => h (by
   obtain ⟨rfl, rfl⟩ := hr ys d hT hs
   rw [putTable, if_pos hT, hs]))
theorem conf_reads {s : List UInt8} (ys : List Cel) (d : Conf) (hT : tabOk ys d) (hs : tableB ys d = s) : (⟨getFix s ((s.length : Int) - 38 + 20) 4, getFix s ((s.length : Int) - 38 + 24) 4, decide (getFix s ((s.length : Int) - 38 + 28) 4 = 1)⟩ : Conf) = d := by
 subst hs
 obtain ⟨_, _, _, _, _, h5, h6, h7⟩ := foot_reads ys d hT _ rfl
 rw [h5, h6, h7]
 obtain ⟨e, z, p⟩ := d
 cases p <;> rfl

theorem drop_of_extract (s : ByteArray) (a : Nat) : (s.extract a s.size).data.toList = s.data.toList.drop a := by
 simp only [ByteArray.data_extract, Array.toList_extract, List.extract_eq_take_drop]
 refine List.take_of_length_le ?_
 rw [List.length_drop]
 have : s.data.toList.length = s.size := by simp
 omega
set_option maxHeartbeats 4000000 in
set_option maxRecDepth 100000 in
theorem specGetTable (s : ByteArray) (hs : s.size ≤ 1048576) (w : World) : Calls Tryz.prog 22 #[.string s] w (TabOut w s.data.toList) := by
 have hsl : s.data.toList.length = s.size := by simp
 have HSL := Lib.hid hsl
 clear hsl
 by_cases h38 : s.size < 38
 · have HT := Lib.hid (show Tab s.data.toList [] zeroConf 1 from tab_foot (fun h => by have := h.1; rw [HSL.out] at this; omega))
   have f0 : (s.size : Int) - 38 < 0 := by omega
   go_enter Tryz.func22, Tryz.ntmps22
   go_wp2_with fail
   have hbx : ((w.alloc (.cells #[.int .i64 0, .int .i64 0, .bool false] 26)).alloc (.cells #[] 41)).heap[w.heap.size]? = some (.cells #[.int .i64 0, .int .i64 0, .bool false] 26 (0, 0)) := (alloc_old _ _ (by simp)).trans (alloc_at w _)
   refine bodyPost_ret (res_three rfl _ _ w.heap.size _ _ _ _ rfl rfl rfl hbx Tryz.underlying26 rfl (by rw [sizeConf]; rfl)) rfl ?_
   refine ⟨_, [], zeroConf, 1, rfl, HT.out, ?_, two_below0 w _ _⟩
   have := World.ownsRow_made (w.alloc (.cells #[.int .i64 0, .int .i64 0, .bool false] 26)) (e := 41) (size := 5) #[] 0 (base := w.heap.size) (by simp) (by unfold maxLen; omega) (by simp)
   unfold OwnC
   simpa using this
 · have f0 : ¬ (s.size : Int) - 38 < 0 := by omega
   obtain ⟨mg, hmg⟩ : ∃ b, ((s.extract (s.size - 38 + 32) s.size).toList == [83, 72, 69, 76, 70, 49]) = b := ⟨_, rfl⟩
   have HMG := Lib.hid (show endsRight s.data.toList ↔ mg = true by
     rw [← hmg, beq_iff_eq, ByteArray.toList_eq, drop_of_extract]
     unfold endsRight
     rw [HSL.out, show s.size - 38 + 32 = s.size - 6 by omega]
     exact ⟨fun h => h.2, fun h => ⟨by omega, h⟩⟩)
   cases mg
   · have HT := Lib.hid (show Tab s.data.toList [] zeroConf 1 from tab_foot (fun h => by have := HMG.out.1 h; cases this))
     go_enter Tryz.func22, Tryz.ntmps22
     go_wp2_with fail
     have hbx : ((w.alloc (.cells #[.int .i64 0, .int .i64 0, .bool false] 26)).alloc (.cells #[] 41)).heap[w.heap.size]? = some (.cells #[.int .i64 0, .int .i64 0, .bool false] 26 (0, 0)) := (alloc_old _ _ (by simp)).trans (alloc_at w _)
     refine bodyPost_ret (res_three rfl _ _ w.heap.size _ _ _ _ rfl rfl rfl hbx Tryz.underlying26 rfl (by rw [sizeConf]; rfl)) rfl ?_
     refine ⟨_, [], zeroConf, 1, rfl, HT.out, ?_, two_below0 w _ _⟩
     have := World.ownsRow_made (w.alloc (.cells #[.int .i64 0, .int .i64 0, .bool false] 26)) (e := 41) (size := 5) #[] 0 (base := w.heap.size) (by simp) (by unfold maxLen; omega) (by simp)
     unfold OwnC
     simpa using this
   · have HER := Lib.hid (HMG.out.2 rfl)
     obtain ⟨ev, hev, hev2⟩ := getFix_nat (l := s.data.toList) (a := (s.size : Int) - 38 + 20) (by omega) (by rw [HSL.out]; omega)
     obtain ⟨sz, hsz, hsz2⟩ := getFix_nat (l := s.data.toList) (a := (s.size : Int) - 38 + 24) (by omega) (by rw [HSL.out]; omega)
     obtain ⟨fl, hfl, hfl2⟩ := getFix_nat (l := s.data.toList) (a := (s.size : Int) - 38 + 28) (by omega) (by rw [HSL.out]; omega)
     obtain ⟨fr, hfr, hfr2⟩ := getFix_nat (l := s.data.toList) (a := (s.size : Int) - 38) (by omega) (by rw [HSL.out]; omega)
     obtain ⟨le, hle, hle2⟩ := getFix_nat (l := s.data.toList) (a := (s.size : Int) - 38 + 4) (by omega) (by rw [HSL.out]; omega)
     obtain ⟨pk, hpk⟩ : ∃ b, ((fl : Int) == 1) = b := ⟨_, rfl⟩
     have HCR := Lib.hid (show ∀ ys d, tabOk ys d → tableB ys d = s.data.toList → (⟨(ev : Int), (sz : Int), pk⟩ : Conf) = d from fun ys d hT hh => by
       have h1 := conf_reads ys d hT hh
       rw [HSL.out, hev, hsz, hfl] at h1
       rw [← h1, ← hpk]
       rfl)
     have HIX := Lib.hid (show ∀ ys d, tabOk ys d → tableB ys d = s.data.toList → fr + le ≤ s.size ∧ unwrapB ((s.data.toList.drop fr).take le) = (idxTo ys d (nBlk ys d), 0) from fun ys d hT hh => by
       have h1 := reads_index (I := []) (by rw [HSL.out]; exact hfr) (by rw [HSL.out]; exact hle) ys d hT hh
       rwa [HSL.out] at h1)
     have HEV := Lib.hid hev
     have HSZ := Lib.hid hsz
     have HFL := Lib.hid hfl
     have HFR := Lib.hid hfr
     have HLE := Lib.hid hle
     have B0 := Lib.hid (one_below w (.cells #[.int .i64 0, .int .i64 0, .bool false] 26))
     have X0 := Lib.hid (alloc_at w (.cells #[.int .i64 0, .int .i64 0, .bool false] 26))
     have hsm : s.size ≤ maxLen := by unfold maxLen; omega
     clear hev hsz hfl hfr hle hfl2
     go_enter Tryz.func22, Tryz.ntmps22
     go_wp2_with fail
     refine (specGetFix s ((s.size : Int) - 38 + 20) 4 _ hsm (by omega)).mono ?_
     rw [HEV.out]
     rintro r w1 ⟨rfl, b1⟩
     have B1 := Lib.hid (B0.out.trans (b1.mono B0.out.size))
     have X1 := Lib.hid ((b1.block w.heap.size (by simp)).trans X0.out)
     clear b1
     go_wp2_with fail
     refine (specGetFix s ((s.size : Int) - 38 + 24) 4 _ hsm (by omega)).mono ?_
     rw [HSZ.out]
     rintro r w2 ⟨rfl, b2⟩
     have B2 := Lib.hid (B1.out.trans (b2.mono B1.out.size))
     have X2 := Lib.hid ((b2.block w.heap.size (Array.getElem?_eq_some_iff.1 X1.out).1).trans X1.out)
     clear b2
     go_wp2_with fail
     refine (specGetFix s ((s.size : Int) - 38 + 28) 4 _ hsm (by omega)).mono ?_
     rw [HFL.out]
     rintro r w3 ⟨rfl, b3⟩
     have B3 := Lib.hid (B2.out.trans (b3.mono B2.out.size))
     have X3 := Lib.hid ((b3.block w.heap.size (Array.getElem?_eq_some_iff.1 X2.out).1).trans X2.out)
     clear b3
     go_wp2_with fail
     have C4 := Lib.hid (alloc_at w3 (.cells #[.int .i64 ev, .int .i64 sz, .bool pk] 26))
     have B4 := Lib.hid (B3.out.alloc B3.out.size (.cells #[.int .i64 ev, .int .i64 sz, .bool pk] 26))
     have X4 := Lib.hid ((alloc_old w3 (.cells #[.int .i64 ev, .int .i64 sz, .bool pk] 26) (Array.getElem?_eq_some_iff.1 X3.out).1).trans X3.out)
     obtain ⟨bx, hbx⟩ : ∃ b, w3.heap.size = b := ⟨_, rfl⟩
     obtain ⟨w4, hw4⟩ : ∃ W, w3.alloc (.cells #[.int .i64 ev, .int .i64 sz, .bool pk] 26) = W := ⟨_, rfl⟩
     rw [hw4, hbx] at C4
     rw [hw4] at B4 X4 ⊢
     rw [hbx]
     clear hw4 hbx
     refine (specGetFix s ((s.size : Int) - 38) 4 _ hsm (by omega)).mono ?_
     rw [HFR.out]
     rintro r w5 ⟨rfl, b5⟩
     have B5 := Lib.hid (B4.out.trans (b5.mono B4.out.size))
     have T5 := Lib.hid (TwoAt.below (show TwoAt w bx ev sz pk w4 from ⟨C4.out, X4.out⟩) b5)
     clear b5
     go_wp2_with fail
     refine (specGetFix s ((s.size : Int) - 38 + 4) 4 _ hsm (by omega)).mono ?_
     rw [HLE.out]
     rintro r w6 ⟨rfl, b6⟩
     have B6 := Lib.hid (B5.out.trans (b6.mono B5.out.size))
     have T6 := Lib.hid (T5.out.below b6)
     clear b6
     have O7 := Lib.hid (show OwnC w.heap.size (w6.alloc (.cells #[] 41)) (.slice (some ⟨w6.heap.size, 0, none⟩) 0 0) [] from World.ownsRow_made w6 #[] 0 (by have := B6.out.size; exact this) (by unfold maxLen; omega) (by simp))
     have B7 := Lib.hid (B6.out.alloc B6.out.size (.cells #[] 41))
     have T7 := Lib.hid (T6.out.below (one_below w6 (.cells #[] 41)))
     go_upto_region 7 with fail
     obtain ⟨w7, hw7⟩ : ∃ W, w6.alloc (.cells #[] 41) = W := ⟨_, rfl⟩
     obtain ⟨g7, hg7⟩ : ∃ g, w6.heap.size = g := ⟨_, rfl⟩
     rw [hw7, hg7] at O7
     rw [hw7] at B7 T7 ⊢
     rw [hg7]
     clear hw7 hg7
     obtain ⟨inb, hinb⟩ : ∃ b, decide (fr + le ≤ s.size) = b := ⟨_, rfl⟩
     go_cut [62] from 51 to 61 (fun v62 wx => v62 = .bool inb ∧ wx = w7)
     case first =>
       by_cases h1 : fr ≤ s.size
       · have h1' : (fr : Int) ≤ (s.size : Int) := by omega
         by_cases h2 : le ≤ s.size - fr
         · have h2' : (le : Int) ≤ (s.size : Int) - (fr : Int) := by omega
           have hi : inb = true := by rw [← hinb]; exact decide_eq_true (by omega)
           go_wp2_with fail
           go_meet
           case rel => exact ⟨by rw [hi], rfl⟩
         · have h2' : ¬ (le : Int) ≤ (s.size : Int) - (fr : Int) := by omega
           have hi : inb = false := by rw [← hinb]; exact decide_eq_false (by omega)
           go_wp2_with fail
           go_meet
           case rel => exact ⟨by rw [hi], rfl⟩
       · have h1' : ¬ (fr : Int) ≤ (s.size : Int) := by omega
         have hi : inb = false := by rw [← hinb]; exact decide_eq_false (by omega)
         go_wp2_with fail
         go_meet
         case rel => exact ⟨by rw [hi], rfl⟩
     case rest =>
       obtain ⟨rfl, rfl⟩ := hcut
       go_upto_if 62 with fail
       go_cut [9] from 63 to 98 (fun vv wx => ∃ r, OwnC w.heap.size wx vv r ∧ (∀ x ∈ r, cellOk x = true) ∧ r.length ≤ 110 ∧ Below w.heap.size w wx ∧ TwoAt w bx ev sz pk wx ∧ ∀ ys d, tabOk ys d → tableB ys d = s.data.toList → r = ys)
       case first =>
         cases inb
         · have hno : ¬ fr + le ≤ s.size := of_decide_eq_false hinb
           go_wp2_with fail
           go_meet
           case rel => exact ⟨[], O7.out, (by intro x hx; simp at hx), Nat.zero_le _, B7.out, T7.out, fun ys d hT hh => absurd (HIX.out ys d hT hh).1 hno⟩
         · have hyes : fr + le ≤ s.size := of_decide_eq_true hinb
           have j1 : (0 : Int) ≤ (fr : Int) := by omega
           have j2 : (fr : Int) ≤ (fr : Int) + (le : Int) := by omega
           have j3 : (fr : Int) + (le : Int) ≤ (s.size : Int) := by omega
           obtain ⟨X, hX⟩ : ∃ X, s.extract fr (fr + le) = X := ⟨_, rfl⟩
           have HXX := Lib.hid hX
           have hXl : X.data.toList = (s.data.toList.drop fr).take le := by rw [← hX]; exact text_part s fr le
           have hXs : X.size ≤ 1048576 := by rw [← hX, ByteArray.size_extract]; omega
           obtain ⟨u, hu⟩ : ∃ u, unwrapB X.data.toList = u := ⟨_, rfl⟩
           obtain ⟨ub, uk⟩ := u
           obtain ⟨A, hA, hAl⟩ := text_of ub
           have HUA := Lib.hid (show (A.data.toList, uk) = unwrapB X.data.toList by rw [hu, hA])
           have HIA := Lib.hid (show ∀ ys d, tabOk ys d → tableB ys d = s.data.toList → A.data.toList = idxTo ys d (nBlk ys d) ∧ (ev : Int) = d.every from fun ys d hT hh => by
             have h1 := (HIX.out ys d hT hh).2
             rw [← hXl, hu] at h1
             exact ⟨by rw [hA]; exact (Prod.mk.inj h1).1, by rw [← HCR.out ys d hT hh]⟩)
           have hAs : A.size ≤ 2000 := by
             have h1 := (unwrap_most X.data.toList).1
             rw [hu] at h1
             rw [hAl]
             exact h1
           have HAL := Lib.hid (show A.data.toList.length = A.size by simp)
           clear hX hXl hu hA hAl hinb
           go_wp2_with fail
           rw [HXX.out]
           refine (specUnwrap X A uk hXs HUA.out _).mono ?_
           rintro r w8 ⟨rfl, b8⟩
           have B8 := Lib.hid (B7.out.trans (b8.mono B7.out.size))
           have T8 := Lib.hid (T7.out.below b8)
           have O8 := Lib.hid (O7.out.below b8)
           clear b8
           go_wp2_with fail
           go_loopw [9, 12] (fun vv ii wr => ∃ (r : List Cel) (nx : Int), ii = .int .i64 nx ∧ (nx = -1 ∨ 0 ≤ nx ∧ nx ≤ A.size) ∧ r.length ≤ 110 ∧ Hid (OwnC w.heap.size wr vv r) ∧ Hid ((∀ x ∈ r, cellOk x = true) ∧ Reads s.data.toList r nx) ∧ Hid (Below w.heap.size w wr ∧ TwoAt w bx ev sz pk wr))
             (fun _ ii _ => if intOf ii < 0 then 0 else A.size + 1 - (intOf ii).toNat)
           case atStart => exact ⟨[], 0, rfl, .inr ⟨by omega, by omega⟩, Nat.zero_le _, O8.out, ⟨by intro x hx; simp at hx, reads_start _⟩, ⟨B8.out, T8.out⟩⟩
           case round =>
             obtain ⟨r, nx, rfl, hnx, hr110, HO, HRD, HW⟩ := hrel
             obtain ⟨ad, cp, hv, _, hlc⟩ := own_parts HO.out
             subst hv
             have hen : ∀ (hx : nx < 0 ∨ (A.data.toList.length : Int) ≤ nx ∨ 60 < r.length), ∀ ys d, tabOk ys d → tableB ys d = s.data.toList → r = ys := fun hx => reads_end (fun ys d hT hh => (HIA.out ys d hT hh).1) HRD.out.2 hx
             have HEN := Lib.hid hen
             clear hen
             by_cases hn0 : nx < 0
             · have hn0' : ¬ 0 ≤ nx := by omega
               go_wp2_with fail
               go_meet
               case rel => exact ⟨r, HO.out, HRD.out.1, hr110, HW.out.1, HW.out.2, HEN.out (.inl hn0)⟩
             · have hn0' : 0 ≤ nx := by omega
               obtain ⟨a, rfl⟩ := Int.eq_ofNat_of_zero_le hn0'
               by_cases hna : a < A.size
               · have hna' : (a : Int) < (A.size : Int) := by omega
                 by_cases h60 : r.length ≤ 60
                 · have h60' : (r.length : Int) ≤ 60 := by omega
                   have h3 := HW.out.2.conf
                   unfold ConfAt at h3
                   obtain ⟨x0, x1, x2⟩ := h3
                   go_wp2_with fail
                   refine (specTake s A a (ev : Int) hs hAs hna _).mono ?_
                   rintro e' w9 ⟨v2, r2, nx2, rfl, o2, hl2, hk2, hn2, ht2, b9⟩
                   have O9 := Lib.hid (HO.out.below b9)
                   have B9 := Lib.hid (HW.out.1.trans (b9.mono HW.out.1.size))
                   have T9 := Lib.hid (HW.out.2.below b9)
                   have HR9 := Lib.hid (reads_step (fun ys d hT hh => HIA.out ys d hT hh) HRD.out.2 (by rw [HAL.out]; exact hna) (fun zs b h => ht2 zs b h))
                   have HK9 := Lib.hid (show ∀ x ∈ r ++ r2, cellOk x = true from fun x hx => by
                     rcases List.mem_append.1 hx with h | h
                     · exact HRD.out.1 x h
                     · exact all_ok hk2 x h)
                   have hn2' : nx2 = -1 ∨ 0 ≤ nx2 ∧ nx2 ≤ A.size := by
                     rw [HAL.out] at hn2
                     omega
                   have hms : nx2 < 0 ∨ (a : Int) < nx2 := by omega
                   obtain ⟨ad2, cp2, hv2, hnil, _⟩ := own_parts o2
                   subst hv2
                   have O2 := Lib.hid o2
                   clear o2 b9 ht2 hk2 hn2 x0 x1 x2
                   cases ad2 with
                   | none =>
                     obtain ⟨hr2, hcp2⟩ := hnil rfl
                     subst hr2 hcp2
                     rw [List.append_nil] at HR9 HK9
                     go_wp2_with (at_builtin; refine wpList_plain rfl (fun K hK => ?_); refine op_pushN _ _ rfl rfl rfl hlc ?_; refine hK _ _ ?_; clear hK K)
                     go_roundw
                     case rel => exact ⟨r, nx2, rfl, hn2', hr110, O9.out, ⟨HK9.out, HR9.out⟩, ⟨B9.out, T9.out⟩⟩
                     case measure =>
                       show (if nx2 < 0 then 0 else A.size + 1 - nx2.toNat) < (if (a : Int) < 0 then 0 else A.size + 1 - (a : Int).toNat)
                       rw [if_neg (show ¬ (a : Int) < 0 by omega)]
                       split <;> omega
                   | some ad2 =>
                     have HCE := Lib.hid (own_cells O2.out)
                     have hlen : r.length + r2.length < 1000 := by omega
                     go_wp2_with (at_builtin; refine wpList_plain rfl (fun K hK => ?_); refine op_pushC r2 _ _ rfl rfl rfl rfl HCE.out O9.out B9.out.size hlen ?_; intro v7 w7 o7 gr7; refine hK _ _ ?_; clear hK K; have T10 := Lib.hid (T9.out.row O9.out gr7); have L10 := Lib.hid (B9.out.grown gr7 B9.out.size (fun q e => (O9.out.lt e).1)); have O10 := Lib.hid o7; clear o7 gr7)
                     go_roundw
                     case rel => exact ⟨r ++ r2, nx2, rfl, hn2', by rw [List.length_append]; omega, O10.out, ⟨HK9.out, HR9.out⟩, ⟨L10.out, T10.out⟩⟩
                     case measure =>
                       show (if nx2 < 0 then 0 else A.size + 1 - nx2.toNat) < (if (a : Int) < 0 then 0 else A.size + 1 - (a : Int).toNat)
                       rw [if_neg (show ¬ (a : Int) < 0 by omega)]
                       split <;> omega
                 · have h60' : ¬ (r.length : Int) ≤ 60 := by omega
                   go_wp2_with fail
                   go_meet
                   case rel => exact ⟨r, HO.out, HRD.out.1, hr110, HW.out.1, HW.out.2, HEN.out (.inr (.inr (by omega)))⟩
               · have hna' : ¬ (a : Int) < (A.size : Int) := by omega
                 go_wp2_with fail
                 go_meet
                 case rel => exact ⟨r, HO.out, HRD.out.1, hr110, HW.out.1, HW.out.2, HEN.out (.inr (.inl (by rw [HAL.out]; omega)))⟩
       case rest =>
         obtain ⟨r, o8, hok8, hl8, b8, t8, hend⟩ := hcut
         obtain ⟨ad, cp, hv, _, hlc⟩ := own_parts o8
         subst hv
         have O8 := Lib.hid o8
         have B8 := Lib.hid b8
         have T8 := Lib.hid t8
         have HEND := Lib.hid (show ∀ ys d, tabOk ys d → tableB ys d = s.data.toList → r = ys ∧ (⟨(ev : Int), (sz : Int), pk⟩ : Conf) = d from fun ys d hT hh => ⟨hend ys d hT hh, HCR.out ys d hT hh⟩)
         have HF := Lib.hid (show Fit r from fun y hy => by have := ok_small (hok8 y hy); unfold maxLen; omega)
         have h3 := t8.conf
         unfold ConfAt at h3
         obtain ⟨x0, x1, x2⟩ := h3
         clear o8 b8 t8 hend hok8
         go_wp2_with fail
         refine (specPutTable ad r.length cp r (ev : Int) (sz : Int) pk (by omega) HF.out _ O8.out.row.o).mono ?_
         intro r' w9 h9
         obtain ⟨PT, hPT, hPTl, rfl, b9⟩ := h9.text
         have HPT := Lib.hid hPT
         have B9 := Lib.hid (B8.out.trans (b9.mono B8.out.size))
         have T9 := Lib.hid (T8.out.below b9)
         have O9 := Lib.hid (O8.out.below b9)
         clear h9 hPT hPTl b9 x0 x1 x2
         by_cases hsame : PT.data.toList = s.data.toList
         · have HTB := Lib.hid (show Tab s.data.toList r ⟨(ev : Int), (sz : Int), pk⟩ 0 from tab_is (fun h => by have := HSL.out; rw [h] at this; simp at this; omega) (by rw [← HPT.out]; exact hsame))
           have hPs : PT = s := bytes_ext hsame
           subst hPs
           clear hsame
           have h3 := T9.out.conf
           unfold ConfAt at h3
           obtain ⟨x0, x1, x2⟩ := h3
           obtain ⟨y0, y1, y2, z0, z1, z2⟩ := blk_three T9.out.2
           have hmix : Tryz.prog.follows .mixedOrders = true := by kernel_rfl
           go_upto_region 16 with fail
           go_cut [2, 4] from 106 to 107 (fun s2 s4 wx => s2 = .slice ad r.length cp ∧ s4 = .int .i64 0 ∧ wx = ((((w9.setCell ⟨w.heap.size, 0, none⟩ (.int .i64 ev)).setCell ⟨w.heap.size, 1, none⟩ (.int .i64 sz)).setCell ⟨w.heap.size, 2, none⟩ (.bool pk)).drew))
           case first =>
             go_region_with (fail)
             all_goals (go_wp2_with fail; go_meet; exact ⟨rfl, rfl, rfl⟩)
           case rest =>
             obtain ⟨rfl, rfl, rfl⟩ := hcut
             go_wp2_with fail
             refine bodyPost_ret (res_three rfl _ _ w.heap.size _ _ _ _ rfl rfl rfl (set_three T9.out.2 (.int .i64 ev) (.int .i64 sz) (.bool pk)) Tryz.underlying26 rfl (by rw [sizeConf]; rfl)) rfl ?_
             exact ⟨_, r, ⟨(ev : Int), (sz : Int), pk⟩, 0, rfl, HTB.out, (own_three O9.out T9.out.2 (by decide) _ _ _).below (below_draws 1), (((B9.out.setCell (p := ⟨w.heap.size, 0, none⟩) (Nat.le_refl _) _).setCell (p := ⟨w.heap.size, 1, none⟩) (Nat.le_refl _) _).setCell (p := ⟨w.heap.size, 2, none⟩) (Nat.le_refl _) _).drew⟩
         · have HTB := Lib.hid (tab_isnt (r := r) (c := ⟨(ev : Int), (sz : Int), pk⟩) HER.out (by rw [← HPT.out]; exact hsame) HEND.out)
           have hne : (PT.toList == s.toList) = false := by rw [ByteArray.toList_eq, ByteArray.toList_eq]; exact beq_eq_false_iff_ne.2 hsame
           have T10 := Lib.hid (T9.out.below (one_below w9 (.cells #[] 41)))
           have B10 := Lib.hid (B9.out.alloc B9.out.size (.cells #[] 41))
           have O10 := Lib.hid (show OwnC w.heap.size (w9.alloc (.cells #[] 41)) (.slice (some ⟨w9.heap.size, 0, none⟩) 0 0) [] from World.ownsRow_made w9 #[] 0 (by have := B9.out.size; exact this) (by unfold maxLen; omega) (by simp))
           obtain ⟨y0, y1, y2, z0, z1, z2⟩ := blk_three T10.out.2
           go_wp2_with fail
           refine bodyPost_ret (res_three rfl _ _ w.heap.size _ _ _ _ rfl rfl rfl (set_three T10.out.2 (.int .i64 0) (.int .i64 0) (.bool false)) Tryz.underlying26 rfl (by rw [sizeConf]; rfl)) rfl ?_
           exact ⟨_, [], zeroConf, 2, rfl, HTB.out, own_three O10.out T10.out.2 (by decide) _ _ _, ((B10.out.setCell (p := ⟨w.heap.size, 0, none⟩) (Nat.le_refl _) _).setCell (p := ⟨w.heap.size, 1, none⟩) (Nat.le_refl _) _).setCell (p := ⟨w.heap.size, 2, none⟩) (Nat.le_refl _) _⟩
end Go.Proofs.YtkomnnijnggbpaaGreatDoor
