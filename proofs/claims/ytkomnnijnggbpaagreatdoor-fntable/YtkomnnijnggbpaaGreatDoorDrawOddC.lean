/- The model's draw of odd lists of cells. -/
import Derived.Test.YtkomnnijnggbpaaGreatDoorDrawCells
namespace Go.Proofs.YtkomnnijnggbpaaGreatDoor
open Go.RowKit
set_option linter.unusedVariables false

theorem wp_pushC1 {B : Nat} {w : World} {v : Value} {xs : List Cel} (y : Cel) {ops : Array Oper} {rest : List Oper} {o : Oper} {act : Act} {Q : Exit → Act → World → Prop} (hgd : o.guard = none) (s x : Operand)
   (hop : o.op = .call { callee := .builtin .append, args := #[s, x], argTypes := #[24, 24] })
   (hs : act.eval s = v) {ad : Addr} {c : Nat} (hx : act.eval x = .slice (some ad) 1 c) (hb : ∀ j u, ([y].flatMap celCells)[j]? = some u → w.cell? (ad.add j) = some u) (h : OwnC B w v xs) (hB : B ≤ w.heap.size) (hl : xs.length < 500)
   (hk : ∀ g c' w', OwnC B w' (.slice (some ⟨g, 0, none⟩) (xs.length + 1) c') (xs ++ [y]) → w.grownBy w' v.ownBlock → wpList Tryz.prog ops Q rest (act.put o.dst (.slice (some ⟨g, 0, none⟩) (xs.length + 1) c')) w') :
   wpList Tryz.prog ops Q (o :: rest) act w := by
 refine wpList_plain hgd fun K hK => ?_
 refine op_pushC [y] s x hop hs hx rfl hb h hB (by show xs.length + 1 < 1000; omega) ?_
 intro v' w' ho hg
 have ho' := ho
 unfold OwnC at ho'
 rw [show (xs ++ [y]).length = xs.length + 1 by simp] at ho'
 obtain ⟨g, c', rfl⟩ := ownsRow_succ ho'
 exact hK _ _ (hk g c' w' ho hg)

theorem Drawing.push {w W W' : World} {T p : Nat} {a : Option Addr} {len cap : Nat} {zs : List Int} {i : Nat} {h : Int} {g n c : Nat} {ys : List Cel} (d : Drawing w W T p a len cap zs i h g n c ys) (hp : p < w.heap.size) (hr : ∀ x, a = some x → x.block < w.heap.size ∨ len = 0) {gn cn : Nat} {x : Cel} (ho : OwnC w.heap.size W' (.slice (some ⟨gn, 0, none⟩) (n + 1) cn) (ys ++ [x])) (hg : W.grownBy W' (some g)) (hx : SmallC x) :
   Drawing w W' T p a len cap zs i h gn (n + 1) cn (ys ++ [x]) := by
 have hgB : w.heap.size ≤ g := (d.own.lt rfl).1
 refine ⟨ho, d.cur.kept hg (by simp; omega) (fun x hx => by rcases hr x hx with h | h; exact .inl (by simp; omega); exact .inr h), ⟨hg.os.trans d.grow.os, hg.tape.trans d.grow.tape, hg.output.trans d.grow.output, Nat.le_trans d.grow.size hg.size, fun k hk hne => (hg.block k (by have := d.grow.size; omega) (by simp; omega)).trans (d.grow.block k hk hne)⟩, by rw [List.length_append, d.len]; rfl, fun y hy => ?_⟩
 rcases List.mem_append.1 hy with h1 | h1
 · exact d.small y h1
 · rw [List.mem_singleton.1 h1]; exact hx

set_option maxHeartbeats 2000000 in
set_option maxRecDepth 100000 in
theorem l04OddCells_at (most : Nat) (hmost : most ≤ 12) (T p : Nat) (a : Option Addr) (len cap : Nat) (zs : List Int) (i : Nat) (h : Int) (w : World) (cu : CurAt w T p a len cap zs i h) :
   Calls Tryz.prog 45 #[.pointer (some ⟨p, 0, none⟩), .int .i64 most] w (SomeCels (most + 1) T p a len cap zs w) := by
 have hpl := cu.lt
 have HC := Lib.hid cu
 clear cu
 go_enter Tryz.func45, Tryz.ntmps45
 go_wp2_with fail
 refine (l04Cells_at most hmost T p a len cap zs i h _ HC.out).mono ?_
 rintro e w1 ⟨g, n, c, i1, h1, ys, rfl, hn, d1⟩
 have D1 := Lib.hid d1
 clear d1
 go_wp2_with fail
 refine (l01Once_at T p a len cap zs i1 h1 8 _ D1.out.cur (by omega) (by omega)).mono ?_
 rintro e w2 ⟨b, i2, h2, rfl, c2, g2⟩
 have D2 := Lib.hid (D1.out.draw hpl g2 c2)
 clear c2 g2
 cases b
 · go_wp2
   go_ret
   exact ⟨g, n, c, i2, h2, ys, rfl, by omega, D2.out⟩
 · go_wp2_with fail
   refine (l04Odd_at T p a len cap zs i2 h2 _ D2.out.cur).mono ?_
   rintro e w3 ⟨⟨R, C, t, G, V⟩, i3, h3, hs3, rfl, c3, g3⟩
   have D3 := Lib.hid ((D2.out.draw hpl g3 c3).below (one_below w3 (.cells #[.string R, .string C, .int .i64 t, .bool G, .string V] 41)))
   have TC := Lib.hid (new_cells w3 ⟨R, C, t, G, V⟩ rfl)
   have HS := Lib.hid hs3
   have hys : ys.length = n := D3.out.len
   clear c3 g3 hs3
   go_wp2_with (refine wp_pushC1 (v := .slice (some ⟨g, 0, none⟩) n c) ⟨R, C, t, G, V⟩ rfl _ _ rfl rfl rfl TC.out D3.out.own D3.out.grow.size (by omega) ?_; intro gn cn w4 o4 gr4; have O4 := Lib.hid o4; have N4 := Lib.hid gr4; clear o4 gr4)
   go_ret
   exact ⟨gn, n + 1, cn, i3, h3, ys ++ [⟨R, C, t, G, V⟩], rfl, by omega, D3.out.push hpl HC.out.rowlt (by have := O4.out; rwa [hys] at this) N4.out HS.out⟩
end Go.Proofs.YtkomnnijnggbpaaGreatDoor
