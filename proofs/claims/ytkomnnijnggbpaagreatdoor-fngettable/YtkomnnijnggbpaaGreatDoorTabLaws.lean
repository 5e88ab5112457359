/- The walk of the law FnExactGetTable. -/
import Derived.Test.YtkomnnijnggbpaaGreatDoorGetTabI
import Derived.Test.YtkomnnijnggbpaaGreatDoorCellEq
import Derived.Test.YtkomnnijnggbpaaGreatDoorZ5
namespace Go.Proofs.YtkomnnijnggbpaaGreatDoor
open Go.RowKit
set_option linter.unusedVariables false

theorem conf_cells {w : World} {g : Nat} {e z : Int} {p : Bool} (h : w.heap[g]? = some (.cells #[.int .i64 e, .int .i64 z, .bool p] 26 (0, 0))) : w.cell? ⟨g, 0, none⟩ = some (.int .i64 e) ∧ w.cell? ⟨g, 1, none⟩ = some (.int .i64 z) ∧ w.cell? ⟨g, 2, none⟩ = some (.bool p) :=
 ⟨by simp [World.cell?, h], by simp [World.cell?, h], by simp [World.cell?, h]⟩
theorem keeps_block {W W' : World} {g : Nat} {o : Obj} (h : W.heap[g]? = some o) (hb : Below W.heap.size W W') : W'.heap[g]? = some o := (hb.block _ (Array.getElem?_eq_some_iff.1 h).1).trans h
set_option maxHeartbeats 1000000 in
theorem eqConfig_same (e z : Int) (p : Bool) (w : World) : Calls Tryz.prog 40 #[.agg #[.int .i64 e, .int .i64 z, .bool p], .agg #[.int .i64 e, .int .i64 z, .bool p]] w fun r w' => r = .returned (.bool true) ∧ Below w.heap.size w w' := by
 have X0 := conf_cells (alloc_at w (.cells #[.int .i64 e, .int .i64 z, .bool p] 26))
 have hx := keeps_block (alloc_at w (.cells #[.int .i64 e, .int .i64 z, .bool p] 26)) (one_below (w.alloc (.cells #[.int .i64 e, .int .i64 z, .bool p] 26)) (.cells #[.int .i64 e, .int .i64 z, .bool p] 26))
 have hy := alloc_at (w.alloc (.cells #[.int .i64 e, .int .i64 z, .bool p] 26)) (.cells #[.int .i64 e, .int .i64 z, .bool p] 26)
 obtain ⟨x0, x1, x2⟩ := conf_cells hx
 obtain ⟨y0, y1, y2⟩ := conf_cells hy
 have hp : (p != p) = false := by simp
 have B2 := Lib.hid (two_below0 w (.cells #[.int .i64 e, .int .i64 z, .bool p] 26) (.cells #[.int .i64 e, .int .i64 z, .bool p] 26))
 simp only [World.size_alloc] at y0 y1 y2
 clear hx hy X0
 go_enter Tryz.func40, Tryz.ntmps40
 go_wp2
 go_ret
 exact ⟨rfl, B2.out⟩
set_option maxHeartbeats 2000000 in
set_option maxRecDepth 100000 in
theorem fnExactGetTable_walk (w : World) (a0 : ByteArray) (hL : ErrLaid w) :
   Calls Tryz.prog 9 #[.string a0] w fun e w' => e = .returned (.bool true) ∧ Below w.heap.size w w' := by
 have HL := Lib.hid hL
 have hl0 := hL.lt
 clear hL
 by_cases q0 : a0.size ≤ 1048576
 · go_enter Tryz.func9, Tryz.ntmps9
   go_wp2_with fail
   refine (specGetTable a0 q0 _).mono ?_
   rintro e w1 ⟨v0, r, cf, k, rfl, hg, ho1, hb1⟩
   have HG := Lib.hid hg
   obtain ⟨ad0, cap0, rfl⟩ := own_slice ho1
   obtain ⟨ev, sz, pk⟩ := cf
   unfold confV
   have hlen := (tab_few hg).1
   obtain ⟨n, hn⟩ : ∃ n, r.length = n := ⟨_, rfl⟩
   have X1 := Lib.hid (alloc_at w1 (.cells #[.int .i64 ev, .int .i64 sz, .bool pk] 26))
   have K1 := Lib.hid (one_below w1 (.cells #[.int .i64 ev, .int .i64 sz, .bool pk] 26))
   have Y1 := Lib.hid (ho1.below K1.out)
   have B1 := Lib.hid (hb1.trans (K1.out.mono hb1.size))
   have hkk : ((k : Int) != (k : Int)) = false := by simp
   clear ho1 hb1 hg K1
   rw [hn]
   obtain ⟨wa, hwa⟩ : ∃ W, w1.alloc (.cells #[.int .i64 ev, .int .i64 sz, .bool pk] 26) = W := ⟨_, rfl⟩
   obtain ⟨ga, hga⟩ : ∃ g, w1.heap.size = g := ⟨_, rfl⟩
   rw [hwa, hga] at X1
   rw [hwa] at Y1 B1
   go_wp2_with fail
   clear hwa hga
   refine (implGetTable a0 q0 _ (HL.out.below B1.out hl0)).mono ?_
   rintro e w2 ⟨v1, r', cf', k', rfl, hg', ho2, hb2⟩
   obtain ⟨rfl, rfl, rfl⟩ := tab_one HG.out hg'
   obtain ⟨ad1, cap1, rfl⟩ := own_slice ho2
   unfold confV
   rw [hn]
   have K2 := Lib.hid (one_below w2 (.cells #[.int .i64 ev, .int .i64 sz, .bool pk] 26))
   have X2 := Lib.hid (alloc_at w2 (.cells #[.int .i64 ev, .int .i64 sz, .bool pk] 26))
   have X1b := Lib.hid (keeps_block (keeps_block X1.out hb2) K2.out)
   have A2 := Lib.hid ((Y1.out.below hb2).below K2.out)
   have R2 := Lib.hid (ho2.below K2.out)
   have B2 := Lib.hid (hb2.trans (K2.out.mono hb2.size))
   clear hg' ho2 hb2 K2
   have HN := Lib.hid hn
   rw [hn] at hlen
   clear hn
   obtain ⟨wb, hwb⟩ : ∃ W, w2.alloc (.cells #[.int .i64 ev, .int .i64 sz, .bool pk] 26) = W := ⟨_, rfl⟩
   obtain ⟨gb, hgb⟩ : ∃ g, w2.heap.size = g := ⟨_, rfl⟩
   rw [hwb, hgb] at X2
   rw [hwb] at X1b A2 R2 B2
   go_wp2_with fail
   clear hwb hgb
   refine (eqCellS_same ad1 ad0 n cap1 cap0 r (by omega) _ (by have := R2.out.row; rwa [HN.out] at this) (by have := A2.out.row; rwa [HN.out] at this)).mono ?_
   rintro e w3 ⟨rfl, hb3⟩
   have R3 := Lib.hid (R2.out.below hb3)
   have B3 := Lib.hid (B2.out.trans (hb3.mono B2.out.size))
   obtain ⟨x0, x1, x2⟩ := conf_cells (keeps_block X1b.out hb3)
   obtain ⟨y0, y1, y2⟩ := conf_cells (keeps_block X2.out hb3)
   have X3 := Lib.hid (keeps_block X1b.out hb3)
   clear hb3
   go_wp2_with fail
   refine (eqConfig_same ev sz pk _).mono ?_
   rintro e w3b ⟨rfl, hb3b⟩
   have R3 := Lib.hid (R3.out.below hb3b)
   have B3 := Lib.hid (B3.out.trans (hb3b.mono B3.out.size))
   have X3 := Lib.hid (keeps_block X3.out hb3b)
   clear hb3b x0 x1 x2 y0 y1 y2
   go_wp2_with fail
   refine (markCellS_at (.slice ad1 n cap1) 1 wa.heap.size r _ (by have := R3.out; unfold OwnC at this; rw [HN.out] at this ⊢; exact this) (by omega) (by rw [HN.out]; omega) B3.out.size).mono ?_
   rw [HN.out]
   rintro e w4 ⟨rfl, r4, b4⟩
   have Y4 := Lib.hid (And.intro r4 (B3.out.trans b4))
   have X4 := Lib.hid ((b4.block ga (Array.getElem?_eq_some_iff.1 X1.out).1).trans X3.out)
   clear r4 b4
   go_wp2_with fail
   refine (heldCellS_at (.slice ad1 n cap1) 1 _ n _ Y4.out.1 (by omega) (by omega)).mono ?_
   rintro e w5 ⟨rfl, b5⟩
   have Y5 := Lib.hid (And.intro (row5_below Y4.out.1 b5) (Y4.out.2.trans (b5.mono Y4.out.2.size)))
   have X5 := Lib.hid (keeps_block X4.out b5)
   clear b5
   go_wp2_with fail
   refine (implGetTable a0 q0 _ (HL.out.below (B1.out.trans (Y5.out.2.mono B1.out.size)) hl0)).mono ?_
   rintro e w6 ⟨v2, r', cf', k', rfl, hg', ho6, hb6⟩
   obtain ⟨rfl, rfl, rfl⟩ := tab_one HG.out hg'
   obtain ⟨ad2, cap2, rfl⟩ := own_slice ho6
   unfold confV
   have K6 := Lib.hid (one_below w6 (.cells #[.int .i64 ev, .int .i64 sz, .bool pk] 26))
   have Y6 := Lib.hid (And.intro (row5_below (row5_below Y5.out.1 hb6) K6.out) ((Y5.out.2.trans (hb6.mono Y5.out.2.size)).trans (K6.out.mono (Nat.le_trans Y5.out.2.size hb6.size))))
   have A6 := Lib.hid (Y1.out.below Y6.out.2)
   have R6 := Lib.hid (ho6.below K6.out)
   have X6 := Lib.hid (keeps_block (keeps_block X5.out hb6) K6.out)
   have Z6 := Lib.hid (alloc_at w6 (.cells #[.int .i64 ev, .int .i64 sz, .bool pk] 26))
   clear ho6 hb6 hg' K6
   rw [HN.out]
   obtain ⟨wc, hwc⟩ : ∃ W, w6.alloc (.cells #[.int .i64 ev, .int .i64 sz, .bool pk] 26) = W := ⟨_, rfl⟩
   obtain ⟨gc, hgc⟩ : ∃ g, w6.heap.size = g := ⟨_, rfl⟩
   rw [hwc, hgc] at Z6
   rw [hwc] at Y6 A6 R6 X6
   go_wp2_with fail
   clear hwc hgc
   refine (eqCellS_same ad2 ad0 n cap2 cap0 r (by omega) _ (by have := R6.out.row; rwa [HN.out] at this) (by have := A6.out.row; rwa [HN.out] at this)).mono ?_
   rintro e w7 ⟨rfl, b7⟩
   have Y7 := Lib.hid (And.intro (row5_below Y6.out.1 b7) (Y6.out.2.trans (b7.mono Y6.out.2.size)))
   obtain ⟨x0, x1, x2⟩ := conf_cells (keeps_block X6.out b7)
   obtain ⟨y0, y1, y2⟩ := conf_cells (keeps_block Z6.out b7)
   clear b7
   go_wp2_with fail
   refine (eqConfig_same ev sz pk _).mono ?_
   rintro e w7b ⟨rfl, b7b⟩
   have Y7 := Lib.hid (And.intro (row5_below Y7.out.1 b7b) (Y7.out.2.trans (b7b.mono Y7.out.2.size)))
   clear b7b x0 x1 x2 y0 y1 y2
   go_wp2_with fail
   refine (heldCellS_at (.slice ad1 n cap1) 1 _ n _ Y7.out.1 (by omega) (by omega)).mono ?_
   rintro e w8 ⟨rfl, b8⟩
   have Y8 := Lib.hid (B1.out.trans ((Y7.out.2.trans (b8.mono Y7.out.2.size)).mono B1.out.size))
   clear b8
   go_wp2
   go_ret
   exact ⟨rfl, Y8.out⟩
 · go_enter Tryz.func9, Tryz.ntmps9
   go_wp2
   go_ret
   exact ⟨rfl, Below.refl _ _⟩
end Go.Proofs.YtkomnnijnggbpaaGreatDoor
