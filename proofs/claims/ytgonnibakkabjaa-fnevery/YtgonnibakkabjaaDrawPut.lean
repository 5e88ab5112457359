/- The model's draw of a list of cells for a block. -/
import Derived.Test.YtgonnibakkabjaaDrawBlk
import Derived.Test.YtgonnibakkabjaaDrawOddC
import Derived.Test.YtgonnibakkabjaaGetA
namespace Go.Proofs.Ytgonnibakkabjaa
open Go.RowKit
set_option linter.unusedVariables false

/-- How many starts a block has. -/
theorem starts_count (e : Nat) (h1 : 1 ≤ e) (h16 : e ≤ 16) : ∀ (xs : List Cel) (i pos : Nat) (last : List UInt8), (startsB e i pos last xs).length + 2 * ((i + e - 1) / e) = 2 * ((i + xs.length + e - 1) / e)
  | [], i, pos, last => by simp [startsB]
  | x :: r, i, pos, last => by
    have ih := starts_count e h1 h16 r (i + 1) (pos + (entry e i last x).length) (celKey x)
    have hs : (startsB e i pos last (x :: r)).length = (if i % e = 0 then 2 else 0) + (startsB e (i + 1) (pos + (entry e i last x).length) (celKey x) r).length := by
      rw [startsB, List.length_append]
      congr 1
      split
      · rw [fix_length]
      · rfl
    rw [hs, List.length_cons]
    generalize (startsB e (i + 1) (pos + (entry e i last x).length) (celKey x) r).length = L at ih ⊢
    have he : e = 1 ∨ e = 2 ∨ e = 3 ∨ e = 4 ∨ e = 5 ∨ e = 6 ∨ e = 7 ∨ e = 8 ∨ e = 9 ∨ e = 10 ∨ e = 11 ∨ e = 12 ∨ e = 13 ∨ e = 14 ∨ e = 15 ∨ e = 16 := by omega
    rcases he with rfl | rfl | rfl | rfl | rfl | rfl | rfl | rfl | rfl | rfl | rfl | rfl | rfl | rfl | rfl | rfl <;> split <;> omega
theorem block_count {xs : List Cel} {e : Nat} (h1 : 1 ≤ e) (h16 : e ≤ 16) (hl : xs.length ≤ 50) : getFix (block xs e) ((block xs e).length - 2 : Int) 2 = (((xs.length + e - 1) / e : Nat) : Int) := by
  obtain ⟨q, g1, g2, _⟩ := block_parts xs e hl
  have hL : (block xs e).length = (entries e 0 [] xs).length + (startsB e 0 0 [] xs).length + 2 := by
    have : block xs e = (entries e 0 [] xs ++ startsB e 0 0 [] xs) ++ fixB ((startsB e 0 0 [] xs).length / 2) 2 := by unfold block; simp
    rw [this, List.length_append, List.length_append, fix_length]
  have hc := starts_count e h1 h16 xs 0 0 []
  have h0 : (0 + e - 1) / e = 0 := Nat.div_eq_of_lt (by omega)
  rw [h0, Nat.zero_add] at hc
  rw [g1]
  omega

/-- What the piling holds: the list, the cursor. -/
structure Piled (w W : World) (T p : Nat) (a : Option Addr) (len cap : Nat) (zs : List Int) (i : Nat) (h : Int) (v : Value) (ys : List Cel) : Prop where
  own : OwnC w.heap.size W v ys
  cur : CurAt W T p a len cap zs i h
  grow : w.grownBy W (some p)
section
variable {w W W' : World} {T p : Nat} {a : Option Addr} {len cap : Nat} {zs : List Int} {i i' : Nat} {h h' : Int} {v v' : Value} {ys ys' : List Cel}
theorem Piled.draw (d : Piled w W T p a len cap zs i h v ys) (hp : p < w.heap.size) (hg : W.grownBy W' (some p)) (cu : CurAt W' T p a len cap zs i' h') : Piled w W' T p a len cap zs i' h' v ys := ⟨d.own.grown hg hp, cu, d.grow.trans hg⟩
theorem Piled.new (d : Piled w W T p a len cap zs i h v ys) (o : Obj) : Piled w (W.alloc o) T p a len cap zs i h v ys := ⟨d.own.new o, d.cur.new o, d.grow.trans (World.grownBy_alloc _ _ _)⟩
theorem Piled.push (d : Piled w W T p a len cap zs i h v ys) (hp : p < w.heap.size) (hr : ∀ x, a = some x → x.block < w.heap.size ∨ len = 0) (o : OwnC w.heap.size W' v' ys') (gr : W.grownBy W' v.ownBlock) : Piled w W' T p a len cap zs i h v' ys' := by
  have hb : ∀ k, v.ownBlock = some k → w.heap.size ≤ k := fun k e => (d.own.lt e).1
  refine ⟨o, d.cur.kept gr (fun e => ?_) (fun x hx => ?_), ⟨gr.os.trans d.grow.os, gr.tape.trans d.grow.tape, gr.output.trans d.grow.output, Nat.le_trans d.grow.size gr.size, fun k hk hne => (gr.block k (Nat.lt_of_lt_of_le hk d.grow.size) (fun e => ?_)).trans (d.grow.block k hk hne)⟩⟩
  · have := hb p e.symm
    omega
  · rcases hr x hx with h1 | h1
    · refine .inl (fun e => ?_)
      have := hb _ e.symm
      omega
    · exact .inr h1
  · have := hb k e.symm
    omega
end
/-- Some list of cells, and how often its block starts anew. -/
def PutOf (w : World) (e : Ending) (w' : World) : Prop := ∃ (ad : Option Addr) (n c : Nat) (ys : List Cel) (ev : Int), e = .returned (.tuple #[.slice ad n c, .int .i64 ev]) ∧ n ≤ 51 ∧ CelRow w' ad n c ys ∧ Fit ys ∧ 0 ≤ ev ∧ ev ≤ 17 ∧ Below w.heap.size w w'

set_option maxHeartbeats 2000000 in
set_option maxRecDepth 100000 in
theorem drawPutBlock_at (a : Option Addr) (len cap : Nat) (zs : List Int) (w : World) (hr : Bytes w w.heap.size a len zs) :
    Calls Try.prog 13 #[.slice a len cap] w (PutOf w) := by
  have HR := Lib.hid hr
  clear hr
  go_enter Try.func13, Try.ntmps13
  go_wp2_with fail
  refine (l01New_at a len cap zs _ HR.out).mono ?_
  rintro e w1 ⟨rfl, ⟨h, c1⟩, g0⟩
  have C1 := Lib.hid c1
  have hpl := c1.lt
  have HRL := Lib.hid c1.rowlt
  have G0 := Lib.hid g0
  clear c1 g0
  go_wp2_with fail
  refine (l04OddCells_at 9 (by omega) _ _ _ _ _ _ _ _ _ C1.out).mono ?_
  rintro e w2 ⟨g, n, c, i2, h2, ys, rfl, hn, d2⟩
  have D2 := Lib.hid d2
  clear d2
  go_wp2_with fail
  refine (l01Once_at _ _ _ _ _ _ _ _ 20 _ D2.out.cur (by omega) (by omega)).mono ?_
  rintro e w3 ⟨b3, i3, h3, rfl, c3, g3⟩
  have D3 := Lib.hid (D2.out.draw hpl g3 c3)
  clear c3 g3
  cases b3
  · go_wp2_with fail
    refine (l05Every_at _ _ _ _ _ _ _ _ _ D3.out.cur).mono ?_
    rintro e w4 ⟨ev, i4, h4, hx, rfl, c4, g4⟩
    have D4 := Lib.hid (D3.out.draw hpl g4 c4)
    have hx : 0 ≤ ev ∧ ev ≤ 17 := hx
    clear c4 g4
    go_wp2_with fail
    go_ret2
    exact ⟨_, n, c, ys, ev, rfl, by omega, D4.out.own.row, (fun y hy => small_fit (D4.out.small y hy)), hx.1, hx.2, below_new G0.out D4.out.grow⟩
  · have P3 := Lib.hid (show Piled w1 w3 _ _ _ _ _ _ _ _ (.slice none 0 0) [] from ⟨own_nil _ _, D3.out.cur, D3.out.grow⟩)
    clear D2 D3
    go_wp2_with fail
    go_loopw [5, 6] (fun vv ii wr => ∃ (j ih : Nat) (hh : Int) (zs' : List Cel), j ≤ 51 ∧ ii = .int .i64 j ∧ zs'.length = j ∧ Hid (Piled w1 wr 94 w.heap.size a len cap zs ih hh vv zs' ∧ Fit zs')) (fun _ ii _ => 60 - (intOf ii).toNat)
    case atStart => exact ⟨0, i3, h3, [], by omega, rfl, rfl, ⟨P3.out, fun y hy => by simp at hy⟩⟩
    case round =>
      obtain ⟨j, ih, hh, xs, hj, rfl, hxl, HX⟩ := hrel
      obtain ⟨ad, cp, hv⟩ := own_slice HX.out.1.own
      rw [hxl] at hv
      subst hv
      go_wp2_with fail
      refine (l01Below_any _ _ _ _ _ _ _ _ 3 _ HX.out.1.cur (by omega) (by omega)).mono ?_
      rintro e w5 ⟨x, i5, h5, hx0, hx1, rfl, c5, g5⟩
      have P5 := Lib.hid (HX.out.1.draw hpl g5 c5)
      have HF := Lib.hid HX.out.2
      have HL := Lib.hid hxl
      clear c5 g5 HX hxl
      by_cases hlt : (j : Int) < 49 + x
      · have N6 := Lib.hid (new5 w5 ⟨#[114]⟩ ⟨#[99]⟩ (100 - (j : Int)) false ⟨#[]⟩)
        have P6 := Lib.hid (P5.out.new (.cells #[.string ⟨#[114]⟩, .string ⟨#[99]⟩, .int .i64 (100 - (j : Int)), .bool false, .string ⟨#[]⟩] 38))
        go_wp2_with (at_builtin; refine wpList_plain rfl (fun K hK => ?_); refine op_pushC [⟨⟨#[114]⟩, ⟨#[99]⟩, 100 - (j : Int), false, ⟨#[]⟩⟩] _ _ rfl rfl rfl rfl N6.out P6.out.own P6.out.grow.size (by rw [HL.out]; simp; omega) ?_; intro v7 w7 o7 gr7; refine hK _ _ ?_; clear hK K; have P7 := Lib.hid (P6.out.push hpl HRL.out o7 gr7); clear o7 gr7)
        go_roundw
        case rel =>
          refine ⟨j + 1, i5, h5, xs ++ [⟨⟨#[114]⟩, ⟨#[99]⟩, 100 - (j : Int), false, ⟨#[]⟩⟩], by omega, by go_num, by rw [List.length_append, HL.out]; rfl, ⟨P7.out, fun y hy => ?_⟩⟩
          rcases List.mem_append.1 hy with hm | hm
          · exact HF.out y hm
          · rw [List.mem_singleton.1 hm]
            refine ⟨?_, ?_, ?_⟩
            · show 1 ≤ maxLen
              unfold maxLen; omega
            · show 1 ≤ maxLen
              unfold maxLen; omega
            · show 0 ≤ maxLen
              omega
        case measure => simp [intOf]; omega
      · go_wp2_with fail
        refine (l05Every_at _ _ _ _ _ _ _ _ _ P5.out.cur).mono ?_
        rintro e w6 ⟨ev, i6, h6, hx, rfl, c6, g6⟩
        have P6 := Lib.hid (P5.out.draw hpl g6 c6)
        have hx : 0 ≤ ev ∧ ev ≤ 17 := hx
        clear c6 g6
        go_wp2_with fail
        go_ret2
        exact ⟨ad, j, cp, xs, ev, rfl, hj, by have := P6.out.own; rw [← HL.out] at this ⊢; exact this.row, HF.out, hx.1, hx.2, below_new G0.out P6.out.grow⟩
end Go.Proofs.Ytgonnibakkabjaa
