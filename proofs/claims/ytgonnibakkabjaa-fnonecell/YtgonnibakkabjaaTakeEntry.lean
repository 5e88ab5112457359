/- The program's cursor: an entry taken. -/
import Derived.Test.YtgonnibakkabjaaVarA
import Derived.Test.YtgonnibakkabjaaRdPure
import Derived.Test.YtgonnibakkabjaaAppAt
namespace Go.Proofs.Ytgonnibakkabjaa
open Go.RowKit
set_option linter.unusedVariables false

theorem blk3 {w : World} {g T : Nat} {a0 a1 a2 : Value} (h : w.heap[g]? = some (.cells #[a0, a1, a2] T (0, 0))) : w.cell? ⟨g, 0, none⟩ = some a0 ∧ w.cell? ⟨g, 1, none⟩ = some a1 ∧ w.cell? ⟨g, 2, none⟩ = some a2 ∧ w.frozen? ⟨g, 0, none⟩ = false ∧ w.frozen? ⟨g, 1, none⟩ = false ∧ w.frozen? ⟨g, 2, none⟩ = false := by
  refine ⟨?_, ?_, ?_, ?_, ?_, ?_⟩ <;> simp [World.cell?, World.frozen?, h]
theorem frz4 {w : World} {g T : Nat} {a0 a1 a2 a3 : Value} (h : w.heap[g]? = some (.cells #[a0, a1, a2, a3] T (0, 0))) : w.frozen? ⟨g, 0, none⟩ = false ∧ w.frozen? ⟨g, 1, none⟩ = false ∧ w.frozen? ⟨g, 2, none⟩ = false ∧ w.frozen? ⟨g, 3, none⟩ = false := by
  refine ⟨?_, ?_, ?_, ?_⟩ <;> simp [World.frozen?, h]
theorem set4 {w : World} {g T : Nat} {a0 a1 a2 a3 : Value} (h : w.heap[g]? = some (.cells #[a0, a1, a2, a3] T (0, 0))) (v0 v1 v2 v3 : Value) : ((((w.setCell ⟨g, 0, none⟩ v0).setCell ⟨g, 1, none⟩ v1).setCell ⟨g, 2, none⟩ v2).setCell ⟨g, 3, none⟩ v3).heap[g]? = some (.cells #[v0, v1, v2, v3] T (0, 0)) := by
  rw [set_block _ (set_block _ (set_block _ (set_block (w := w) _ h)))]
  rfl
theorem grown_own {w w' : World} {p g k : Nat} (h : w.grownBy w' (some p)) (hg : w.heap.size ≤ g) (v : Value) : w.grownBy (w'.setCell ⟨g, k, none⟩ v) (some p) :=
  ⟨h.os, h.tape, h.output, by simpa using h.size, fun j hj hne => (Below.heap_setCell _ _ _ _ (show j ≠ g by omega)).trans (h.block j hj hne)⟩
/-- An entry's cursor, its counts and what it answers. -/
structure Cnt (w : World) (p : Nat) (s : ByteArray) (n0 n1 n2 : Int) (b : Nat) (wr : World) : Prop where
  cnt : wr.heap[w.heap.size + 1]? = some (.cells #[.int .i64 n0, .int .i64 n1, .int .i64 n2] 97 (0, 0))
  res : wr.heap[w.heap.size]? = some (.cells #[.int .i64 0, .string ⟨#[]⟩, .bool false, .string ⟨#[]⟩] 65 (0, 0))
  rd : RdAt wr p s b
  lt : p < w.heap.size
  grown : w.grownBy wr (some p)
theorem Cnt.next {w wr w' : World} {p : Nat} {s : ByteArray} {n0 n1 n2 : Int} {b b' : Nat} (c : Cnt w p s n0 n1 n2 b wr) (hg : wr.grownBy w' (some p)) (hr : RdAt w' p s b') : Cnt w p s n0 n1 n2 b' w' := by
  have := c.lt
  exact ⟨(hg.block _ (Array.getElem?_eq_some_iff.1 c.cnt).1 (fun e => by cases e; omega)).trans c.cnt, (hg.block _ (Array.getElem?_eq_some_iff.1 c.res).1 (fun e => by cases e; omega)).trans c.res, hr, c.lt, c.grown.trans hg⟩
theorem RdAt.far {w : World} {p g k : Nat} {s : ByteArray} {b : Int} (h : RdAt w p s b) (v : Value) (hne : p ≠ g) : RdAt (w.setCell ⟨g, k, none⟩ v) p s b := (Below.heap_setCell _ _ _ _ hne).trans h
theorem Cnt.put {w wr : World} {p : Nat} {s : ByteArray} {n0 n1 n2 m0 m1 m2 : Int} {b k : Nat} {v : Value} (c : Cnt w p s n0 n1 n2 b wr) (h : (#[Value.int .i64 n0, .int .i64 n1, .int .i64 n2]).setIfInBounds k v = #[.int .i64 m0, .int .i64 m1, .int .i64 m2]) : Cnt w p s m0 m1 m2 b (wr.setCell ⟨w.heap.size + 1, k, none⟩ v) := by
  have := c.lt
  refine ⟨?_, (Below.heap_setCell _ _ _ _ (show w.heap.size ≠ w.heap.size + 1 by omega)).trans c.res, c.rd.far _ (by omega), c.lt, grown_own c.grown (by omega) _⟩
  rw [set_block v c.cnt, h]
theorem cnt_new {w : World} {p : Nat} {s : ByteArray} {a : Nat} (h : RdAt w p s a) : Cnt w p s 0 0 0 a ((w.alloc (.cells #[.int .i64 0, .string ⟨#[]⟩, .bool false, .string ⟨#[]⟩] 65)).alloc (.cells #[.int .i64 0, .int .i64 0, .int .i64 0] 97)) := by
  have hb := two_below0 w (.cells #[.int .i64 0, .string ⟨#[]⟩, .bool false, .string ⟨#[]⟩] 65) (.cells #[.int .i64 0, .int .i64 0, .int .i64 0] 97)
  refine ⟨?_, ?_, (hb.block _ h.lt).trans h, h.lt, hb.os, hb.tape, hb.output, hb.size, fun k hk _ => hb.block k hk⟩
  · have := alloc_at (w.alloc (.cells #[.int .i64 0, .string ⟨#[]⟩, .bool false, .string ⟨#[]⟩] 65)) (.cells #[.int .i64 0, .int .i64 0, .int .i64 0] 97)
    simpa using this
  · exact (alloc_old _ _ (by simp)).trans (alloc_at w _)
/-- The counts as far as they are read. -/
def Pre3 (l : List UInt8) (a k : Nat) (n0 n1 n2 : Int) (b : Nat) : Prop :=
  (k = 0 ∧ b = a ∧ n0 = 0 ∧ n1 = 0 ∧ n2 = 0) ∨
  (k = 1 ∧ ∃ g1, getVarAt l (a : Int) = some g1 ∧ b = a + g1.length ∧ n0 = (varVal g1 : Nat) ∧ n1 = 0 ∧ n2 = 0) ∨
  (k = 2 ∧ ∃ g1 g2, getVarAt l (a : Int) = some g1 ∧ getVarAt l ((a + g1.length : Nat) : Int) = some g2 ∧ b = a + g1.length + g2.length ∧ n0 = (varVal g1 : Nat) ∧ n1 = (varVal g2 : Nat) ∧ n2 = 0) ∨
  (k = 3 ∧ ∃ sh m z : Nat, rdRaw l a = (if b + m + z / 2 ≤ l.length then some (sh, m, z, b) else none) ∧ n0 = sh ∧ n1 = m ∧ n2 = z ∧ m ≤ 4611686018427387903 ∧ z ≤ 4611686018427387903)
theorem pre3_no {l : List UInt8} {a k : Nat} {n0 n1 n2 : Int} {b : Nat} (h : Pre3 l a k n0 n1 n2 b) (hk : k < 3) (hn : getVarAt l (b : Int) = none) : rdRaw l a = none := by
  rcases h with ⟨_, rfl, _⟩ | ⟨_, g1, h1, rfl, _⟩ | ⟨_, g1, g2, h1, h2, rfl, _⟩ | ⟨rfl, _⟩
  · exact rd_no1 hn
  · exact rd_no2 h1 hn
  · exact rd_no3 h1 h2 hn
  · omega
theorem pre3_0 {l g : List UInt8} {a : Nat} {n0 n1 n2 : Int} {b : Nat} (h : Pre3 l a 0 n0 n1 n2 b) (hg : getVarAt l (b : Int) = some g) : Pre3 l a 1 (varVal g : Nat) n1 n2 (b + g.length) := by
  rcases h with ⟨_, rfl, rfl, rfl, rfl⟩ | ⟨h, _⟩ | ⟨h, _⟩ | ⟨h, _⟩
  · exact .inr (.inl ⟨rfl, g, hg, rfl, rfl, rfl, rfl⟩)
  all_goals omega
theorem pre3_1 {l g : List UInt8} {a : Nat} {n0 n1 n2 : Int} {b : Nat} (h : Pre3 l a 1 n0 n1 n2 b) (hg : getVarAt l (b : Int) = some g) : Pre3 l a 2 n0 (varVal g : Nat) n2 (b + g.length) := by
  rcases h with ⟨h, _⟩ | ⟨_, g1, h1, rfl, rfl, rfl, rfl⟩ | ⟨h, _⟩ | ⟨h, _⟩
  · omega
  · exact .inr (.inr (.inl ⟨rfl, g1, g, h1, hg, rfl, rfl, rfl, rfl⟩))
  all_goals omega
theorem pre3_2 {l g : List UInt8} {a : Nat} {n0 n1 n2 : Int} {b : Nat} (h : Pre3 l a 2 n0 n1 n2 b) (hg : getVarAt l (b : Int) = some g) : Pre3 l a 3 n0 n1 (varVal g : Nat) (b + g.length) := by
  rcases h with ⟨h, _⟩ | ⟨h, _⟩ | ⟨_, g1, g2, h1, h2, rfl, rfl, rfl, rfl⟩ | ⟨h, _⟩
  · omega
  · omega
  · exact .inr (.inr (.inr ⟨rfl, varVal g1, varVal g2, varVal g, rd_is h1 h2 hg, rfl, rfl, rfl, (get_pos h2).2.2, (get_pos hg).2.2⟩))
  · omega
theorem pre3_3 {l : List UInt8} {a : Nat} {n0 n1 n2 : Int} {b : Nat} (h : Pre3 l a 3 n0 n1 n2 b) : ∃ sh m z : Nat, rdRaw l a = (if b + m + z / 2 ≤ l.length then some (sh, m, z, b) else none) ∧ n0 = sh ∧ n1 = m ∧ n2 = z ∧ m ≤ 4611686018427387903 ∧ z ≤ 4611686018427387903 := by
  rcases h with ⟨h, _⟩ | ⟨h, _⟩ | ⟨h, _⟩ | ⟨_, h⟩
  · omega
  · omega
  · omega
  · exact h
/-- What was read of an entry. -/
def EntRead (w : World) (p : Nat) (s : ByteArray) (a : Nat) (e : Ending) (w' : World) : Prop :=
  w.grownBy w' (some p) ∧ ((∃ sh m z a3 : Nat, rdRaw s.data.toList a = some (sh, m, z, a3) ∧ e = .returned (.tuple #[.agg #[.int .i64 sh, .string (s.extract a3 (a3 + m)), .bool (decide (z % 2 = 1)), .string (s.extract (a3 + m) (a3 + m + z / 2))], .bool true]) ∧ RdAt w' p s (a3 + m + z / 2 : Nat)) ∨
    (rdRaw s.data.toList a = none ∧ ∃ (n : Int) (X : ByteArray) (b : Bool) (V : ByteArray), e = .returned (.tuple #[.agg #[.int .i64 n, .string X, .bool b, .string V], .bool false])))
theorem sizeEnt : (Try.prog.info? 65).map (·.size) = some 4 := by kernel_rfl

set_option maxHeartbeats 4000000 in
set_option maxRecDepth 100000 in
theorem takeEntry_at (p : Nat) (s : ByteArray) (a : Nat) (w : World) (h : RdAt w p s a) (hs : s.size ≤ 1048576) (ha : a ≤ s.size) :
    Calls Try.prog 78 #[.pointer (some ⟨p, 0, none⟩)] w (EntRead w p s a) := by
  have HLL := Lib.hid (show s.data.toList.length = s.size by simp)
  have C0 := Lib.hid (cnt_new h)
  have HS := Lib.hid (show s.size ≤ maxLen by unfold maxLen; omega)
  clear h
  go_enter Try.func78, Try.ntmps78
  go_wp2_with fail
  go_loopw [11] (fun ii wr => ∃ (k : Nat) (n0 n1 n2 : Int) (b : Nat), k ≤ 3 ∧ ii = .int .i64 k ∧ b ≤ s.size ∧ Hid (Cnt w p s n0 n1 n2 b wr ∧ Pre3 s.data.toList a k n0 n1 n2 b)) (fun ii _ => 3 - (intOf ii).toNat)
  case atStart => exact ⟨0, 0, 0, 0, a, by omega, rfl, ha, ⟨C0.out, .inl ⟨rfl, rfl, rfl, rfl, rfl⟩⟩⟩
  case round =>
    obtain ⟨k, n0, n1, n2, b, hk, rfl, hb, HX⟩ := hrel
    by_cases hk3 : k < 3
    · have i1 : (k : Int) < 3 := by omega
      go_wp2_with fail
      refine (takeVar_in p s b _ HX.out.1.rd HS.out hb).mono ?_
      rintro e w1 ⟨hg, (⟨g, hgv, rfl, hr⟩ | ⟨hgv, rfl⟩)⟩
      · have hpos := get_pos hgv
        rw [HLL.out] at hpos
        have C1 := Lib.hid (HX.out.1.next (b' := b + g.length) hg (by have e : ((b + g.length : Nat) : Int) = (b : Int) + (g.length : Int) := by omega
                                                                      rw [e]; exact hr))
        have HG := Lib.hid hgv
        clear hg hr hgv
        obtain ⟨d0, d1, d2, f0, f1, f2⟩ := blk3 C1.out.cnt
        obtain ⟨v, hv⟩ : ∃ v : Nat, varVal g = v := ⟨_, rfl⟩
        have HV := Lib.hid hv
        rw [hv]
        clear hv
        have h3 : k = 0 ∨ k = 1 ∨ k = 2 := by omega
        rcases h3 with rfl | rfl | rfl
        · go_wp2_with fail
          go_roundw
          case rel => exact ⟨1, _, _, _, b + g.length, by omega, by go_num, by omega, ⟨C1.out.put (by rfl), by rw [← HV.out]; exact pre3_0 HX.out.2 HG.out⟩⟩
          case measure => simp [intOf]
        · go_wp2_with fail
          go_roundw
          case rel => exact ⟨2, _, _, _, b + g.length, by omega, by go_num, by omega, ⟨C1.out.put (by rfl), by rw [← HV.out]; exact pre3_1 HX.out.2 HG.out⟩⟩
          case measure => simp [intOf]
        · go_wp2_with fail
          go_roundw
          case rel => exact ⟨3, _, _, _, b + g.length, by omega, by go_num, by omega, ⟨C1.out.put (by rfl), by rw [← HV.out]; exact pre3_2 HX.out.2 HG.out⟩⟩
          case measure => simp [intOf]
      · have HN := Lib.hid (pre3_no HX.out.2 hk3 hgv)
        have G1 := Lib.hid (HX.out.1.grown.trans hg)
        have r1 : w1.heap[w.heap.size]? = some (.cells #[.int .i64 0, .string ⟨#[]⟩, .bool false, .string ⟨#[]⟩] 65 (0, 0)) := (hg.block _ (Array.getElem?_eq_some_iff.1 HX.out.1.res).1 (fun e => by cases e; have := HX.out.1.lt; omega)).trans HX.out.1.res
        have R1 := Lib.hid r1
        obtain ⟨c0, c1, c2, c3⟩ := blk4 r1
        obtain ⟨z0, z1, z2, z3⟩ := frz4 r1
        clear hgv hg r1
        go_wp2_with fail
        refine bodyPost_ret (v := .tuple #[.agg #[.int .i64 0, .string ⟨#[]⟩, .bool false, .string ⟨#[]⟩], .bool false]) (res_cell_bool Try.results78 _ _ w.heap.size _ _ _ _ rfl rfl (set4 R1.out _ _ _ _) Try.underlying65 rfl (by rw [sizeEnt]; rfl)) rfl ?_
        exact ⟨grown_own (grown_own (grown_own (grown_own G1.out (Nat.le_refl _) _) (Nat.le_refl _) _) (Nat.le_refl _) _) (Nat.le_refl _) _, .inr ⟨HN.out, _, _, _, _, rfl⟩⟩
    · obtain rfl : k = 3 := by omega
      obtain ⟨sh, m, z, hrd, rfl, rfl, rfl, hm, hz⟩ := pre3_3 HX.out.2
      have HRD := Lib.hid hrd
      have CC := Lib.hid HX.out.1
      clear hrd HX C0
      obtain ⟨d0, d1, d2, f0, f1, f2⟩ := blk3 CC.out.cnt
      by_cases h1 : b + m ≤ s.size
      · go_wp2_with fail
        refine (take_yes p s b m _ CC.out.rd HS.out h1).mono ?_
        rintro e w1 ⟨rfl, hr, hg⟩
        have C1 := Lib.hid (CC.out.next hg hr)
        clear hr hg d0 d1 d2 f0 f1 f2 CC
        obtain ⟨d0, d1, d2, f0, f1, f2⟩ := blk3 C1.out.cnt
        obtain ⟨q, hq⟩ : ∃ q, z / 2 = q := ⟨_, rfl⟩
        have hq1 : (z : Int) / 2 = (q : Int) := by omega
        have hq2 : IntKind.i64.wrap (q : Int) = (q : Int) := IntWalk.i64_in _ (by omega)
        obtain ⟨G, hG⟩ : ∃ G, decide (z % 2 = 1) = G := ⟨_, rfl⟩
        have hG2 : ((z : Int) % 2 == 1) = G := by rw [← hG, Bool.eq_iff_iff]; simp; omega
        have HQ := Lib.hid hq
        have HGG := Lib.hid hG
        clear hq hG
        by_cases h2 : b + m + q ≤ s.size
        · have HR2 := Lib.hid (show rdRaw s.data.toList a = some (sh, m, z, b) by rw [HRD.out, if_pos (by rw [HLL.out, HQ.out]; exact h2)])
          go_wp2_with fail
          refine (take_yes p s (b + m) q _ C1.out.rd HS.out h2).mono ?_
          rintro e w2 ⟨rfl, hr, hg⟩
          have C2 := Lib.hid (C1.out.next hg hr)
          clear hr hg d0 d1 d2 f0 f1 f2 C1
          obtain ⟨d0, d1, d2, f0, f1, f2⟩ := blk3 C2.out.cnt
          obtain ⟨c0, c1, c2, c3⟩ := blk4 C2.out.res
          obtain ⟨z0, z1, z2, z3⟩ := frz4 C2.out.res
          go_wp2_with fail
          refine bodyPost_ret (v := .tuple #[.agg #[.int .i64 sh, .string (s.extract b (b + m)), .bool G, .string (s.extract (b + m) (b + m + q))], .bool true]) (res_cell_bool Try.results78 _ _ w.heap.size _ _ _ _ rfl rfl (set4 C2.out.res _ _ _ _) Try.underlying65 rfl (by rw [sizeEnt]; rfl)) rfl ?_
          refine ⟨grown_own (grown_own (grown_own (grown_own C2.out.grown (Nat.le_refl _) _) (Nat.le_refl _) _) (Nat.le_refl _) _) (Nat.le_refl _) _, .inl ⟨sh, m, z, b, HR2.out, ?_, ?_⟩⟩
          · rw [HGG.out, HQ.out]
          · rw [HQ.out]
            exact (((C2.out.rd.far _ (by have := C2.out.lt; omega)).far _ (by have := C2.out.lt; omega)).far _ (by have := C2.out.lt; omega)).far _ (by have := C2.out.lt; omega)
        · have HR2 := Lib.hid (show rdRaw s.data.toList a = none by rw [HRD.out, if_neg (by rw [HLL.out, HQ.out]; exact h2)])
          go_wp2_with fail
          refine (take_no p s _ q _ C1.out.rd HS.out (by omega)).mono ?_
          rintro e w2 ⟨rfl, nn, rfl⟩
          have C2 := Lib.hid (C1.out.next (w' := w1.drewN nn) (grown_drewN _ _ _) (C1.out.rd.drewN nn))
          clear d0 d1 d2 f0 f1 f2 C1
          generalize w1.drewN nn = w2 at *
          obtain ⟨d0, d1, d2, f0, f1, f2⟩ := blk3 C2.out.cnt
          obtain ⟨c0, c1, c2, c3⟩ := blk4 C2.out.res
          obtain ⟨z0, z1, z2, z3⟩ := frz4 C2.out.res
          go_wp2_with fail
          refine bodyPost_ret (v := .tuple #[.agg #[.int .i64 sh, .string (s.extract b (b + m)), .bool G, .string ⟨#[]⟩], .bool false]) (res_cell_bool Try.results78 _ _ w.heap.size _ _ _ _ rfl rfl (set4 C2.out.res _ _ _ _) Try.underlying65 rfl (by rw [sizeEnt]; rfl)) rfl ?_
          exact ⟨grown_own (grown_own (grown_own (grown_own C2.out.grown (Nat.le_refl _) _) (Nat.le_refl _) _) (Nat.le_refl _) _) (Nat.le_refl _) _, .inr ⟨HR2.out, _, _, _, _, rfl⟩⟩
      · have HR2 := Lib.hid (show rdRaw s.data.toList a = none by rw [HRD.out, if_neg (by rw [HLL.out]; omega)])
        go_wp2_with fail
        refine (take_no p s _ m _ CC.out.rd HS.out (by omega)).mono ?_
        rintro e w2 ⟨rfl, nn, rfl⟩
        have C2 := Lib.hid (CC.out.next (w' := wr.drewN nn) (grown_drewN _ _ _) (CC.out.rd.drewN nn))
        clear d0 d1 d2 f0 f1 f2 CC
        generalize wr.drewN nn = w2 at *
        obtain ⟨c0, c1, c2, c3⟩ := blk4 C2.out.res
        obtain ⟨z0, z1, z2, z3⟩ := frz4 C2.out.res
        go_wp2_with fail
        refine bodyPost_ret (v := .tuple #[.agg #[.int .i64 0, .string ⟨#[]⟩, .bool false, .string ⟨#[]⟩], .bool false]) (res_cell_bool Try.results78 _ _ w.heap.size _ _ _ _ rfl rfl (set4 C2.out.res _ _ _ _) Try.underlying65 rfl (by rw [sizeEnt]; rfl)) rfl ?_
        exact ⟨grown_own (grown_own (grown_own (grown_own C2.out.grown (Nat.le_refl _) _) (Nat.le_refl _) _) (Nat.le_refl _) _) (Nat.le_refl _) _, .inr ⟨HR2.out, _, _, _, _, rfl⟩⟩
end Go.Proofs.Ytgonnibakkabjaa
