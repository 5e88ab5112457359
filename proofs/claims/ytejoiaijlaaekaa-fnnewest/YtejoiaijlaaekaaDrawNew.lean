/- The model's draws of odd lists of cells, and of what is sought in them. -/
import Derived.Test.YtejoiaijlaaekaaDrawCells
namespace Go.Proofs.Ytejoiaijlaaekaa
open Go.RowKit
set_option linter.unusedVariables false

theorem wp_pushC1 {B : Nat} {w : World} {v : Value} {xs : List Cel} (y : Cel) {ops : Array Oper} {rest : List Oper} {o : Oper} {act : Act} {Q : Exit → Act → World → Prop} (hgd : o.guard = none) (s x : Operand)
    (hop : o.op = .call { callee := .builtin .append, args := #[s, x], argTypes := #[36, 36] })
    (hs : act.eval s = v) {ad : Addr} {c : Nat} (hx : act.eval x = .slice (some ad) 1 c) (hb : ∀ j u, ([y].flatMap celCells)[j]? = some u → w.cell? (ad.add j) = some u) (h : OwnC B w v xs) (hB : B ≤ w.heap.size) (hl : xs.length < 500)
    (hk : ∀ g c' w', OwnC B w' (.slice (some ⟨g, 0, none⟩) (xs.length + 1) c') (xs ++ [y]) → w.grownBy w' v.ownBlock → wpList Try.prog ops Q rest (act.put o.dst (.slice (some ⟨g, 0, none⟩) (xs.length + 1) c')) w') :
    wpList Try.prog ops Q (o :: rest) act w := by
  refine wpList_plain hgd fun K hK => ?_
  refine op_pushC [y] s x hop hs hx rfl hb h hB (by show xs.length + 1 < 1000; omega) ?_
  intro v' w' ho hg
  have ho' := ho
  unfold OwnC at ho'
  rw [show (xs ++ [y]).length = xs.length + 1 by simp] at ho'
  obtain ⟨g, c', rfl⟩ := ownsRow_succ ho'
  exact hK _ _ (hk g c' w' ho hg)

theorem Drawing.push {w W W' : World} {T p : Nat} {a : Option Addr} {len cap : Nat} {zs : List Int} {i : Nat} {h : Int} {g n c : Nat} {ys : List Cel} (d : Drawing w W T p a len cap zs i h g n c ys) (hp : p < w.heap.size) (hr : ∀ x, a = some x → x.block < w.heap.size ∨ len = 0) {gn cn : Nat} {x : Cel} (ho : OwnC w.heap.size W' (.slice (some ⟨gn, 0, none⟩) (n + 1) cn) (ys ++ [x])) (hg : W.grownBy W' (some g)) (hx : SmallC x) :
    Drawing w W' T p a len cap zs i h gn (n + 1) cn (ys ++ [x]) := by
  have hgB : w.heap.size ≤ g := (d.own.lt rfl).1
  refine ⟨ho, d.cur.kept hg (by simp; omega) (fun x hx => by rcases hr x hx with h | h; exact .inl (by simp; omega); exact .inr h), ⟨hg.os.trans d.grow.os, hg.tape.trans d.grow.tape, hg.output.trans d.grow.output, Nat.le_trans d.grow.size hg.size, fun k hk hne => (hg.block k (by have := d.grow.size; omega) (by simp; omega)).trans (d.grow.block k hk hne)⟩, by rw [List.length_append, d.len]; rfl, fun y hy => ?_⟩
  rcases List.mem_append.1 hy with h1 | h1
  · exact d.small y h1
  · rw [List.mem_singleton.1 h1]; exact hx

set_option maxHeartbeats 2000000 in
set_option maxRecDepth 100000 in
theorem l04OddCells_at (most : Nat) (hmost : most ≤ 12) (T p : Nat) (a : Option Addr) (len cap : Nat) (zs : List Int) (i : Nat) (h : Int) (w : World) (cu : CurAt w T p a len cap zs i h) :
    Calls Try.prog 54 #[.pointer (some ⟨p, 0, none⟩), .int .i64 most] w (SomeCels (most + 1) T p a len cap zs w) := by
  have hpl := cu.lt
  have HC := Lib.hid cu
  clear cu
  go_enter Try.func54, Try.ntmps54
  go_wp2_with fail
  refine (l04Cells_at most hmost T p a len cap zs i h _ HC.out).mono ?_
  rintro e w1 ⟨g, n, c, i1, h1, ys, rfl, hn, d1⟩
  have D1 := Lib.hid d1
  clear d1
  go_wp2_with fail
  refine (l01Once_at T p a len cap zs i1 h1 8 _ D1.out.cur (by omega) (by omega)).mono ?_
  rintro e w2 ⟨b, i2, h2, rfl, c2, g2⟩
  have D2 := Lib.hid (D1.out.draw hpl g2 c2)
  clear c2 g2
  cases b
  · go_wp2
    go_ret
    exact ⟨g, n, c, i2, h2, ys, rfl, by omega, D2.out⟩
  · go_wp2_with fail
    refine (l04Odd_at T p a len cap zs i2 h2 _ D2.out.cur).mono ?_
    rintro e w3 ⟨⟨R, C, t, G, V⟩, i3, h3, hs3, rfl, c3, g3⟩
    have D3 := Lib.hid ((D2.out.draw hpl g3 c3).below (one_below w3 (.cells #[.string R, .string C, .int .i64 t, .bool G, .string V] 30)))
    have TC := Lib.hid (new_cells w3 ⟨R, C, t, G, V⟩ rfl)
    have HS := Lib.hid hs3
    have hys : ys.length = n := D3.out.len
    clear c3 g3 hs3
    go_wp2_with (refine wp_pushC1 (v := .slice (some ⟨g, 0, none⟩) n c) ⟨R, C, t, G, V⟩ rfl _ _ rfl rfl rfl TC.out D3.out.own D3.out.grow.size (by omega) ?_; intro gn cn w4 o4 gr4; have O4 := Lib.hid o4; have N4 := Lib.hid gr4; clear o4 gr4)
    go_ret
    exact ⟨gn, n + 1, cn, i3, h3, ys ++ [⟨R, C, t, G, V⟩], rfl, by omega, D3.out.push hpl HC.out.rowlt (by have := O4.out; rwa [hys] at this) N4.out HS.out⟩

/-- Some list of cells that a code draws. -/
def CelsOf (w : World) (e : Ending) (w' : World) : Prop := ∃ (g n c : Nat) (ys : List Cel), e = .returned (.slice (some ⟨g, 0, none⟩) n c) ∧ n ≤ 13 ∧ CelRow w' (some ⟨g, 0, none⟩) n c ys ∧ (∀ y ∈ ys, SmallC y) ∧ Below w.heap.size w w'
set_option maxHeartbeats 1000000 in
theorem drawCellsOk_at (a : Option Addr) (len cap : Nat) (zs : List Int) (w : World) (hr : Bytes w w.heap.size a len zs) :
    Calls Try.prog 29 #[.slice a len cap] w (CelsOf w) := by
  have HR := Lib.hid hr
  clear hr
  go_enter Try.func29, Try.ntmps29
  go_wp2_with fail
  refine (l01New_at a len cap zs _ HR.out).mono ?_
  rintro e w1 ⟨rfl, ⟨h, c1⟩, g0⟩
  have C1 := Lib.hid c1
  clear c1
  go_wp2_with fail
  refine (l04OddCells_at 8 (by omega) _ _ _ _ _ _ _ _ _ C1.out).mono ?_
  rintro e w2 ⟨g, n, c, i2, h2, ys, rfl, hn, d2⟩
  have D2 := Lib.hid (And.intro d2.own.row (And.intro d2.small (below_new g0 d2.grow)))
  clear d2 g0
  go_wp2_with fail
  go_ret
  exact ⟨g, n, c, ys, rfl, by omega, D2.out.1, D2.out.2.1, D2.out.2.2⟩

/-- A list, and what is sought in it. -/
def SoughtOf (w : World) (e : Ending) (w' : World) : Prop := ∃ (g n c : Nat) (ys : List Cel) (R C : ByteArray) (t : Int), e = .returned (.tuple #[.slice (some ⟨g, 0, none⟩) n c, .string R, .string C, .int .i64 t]) ∧ n ≤ 13 ∧ CelRow w' (some ⟨g, 0, none⟩) n c ys ∧ (∀ y ∈ ys, SmallC y) ∧ R.size ≤ 40 ∧ C.size ≤ 40 ∧ -1 ≤ t ∧ t ≤ 1000000001 ∧ Below w.heap.size w w'
theorem res_tmp4 {P : Program} {fn : Func} {p q r s : Tmp} (h : fn.results = #[.tmp p, .tmp q, .tmp r, .tmp s]) (tmps : Array Value) (w : World) : (results fn tmps).run P w = .ok (.tuple #[tmps.getD p undef, tmps.getD q undef, tmps.getD r undef, tmps.getD s undef]) w := by
  simp [results, h]
set_option maxHeartbeats 1000000 in
set_option maxRecDepth 100000 in
theorem drawNewest_at (a : Option Addr) (len cap : Nat) (zs : List Int) (w : World) (hr : Bytes w w.heap.size a len zs) :
    Calls Try.prog 26 #[.slice a len cap] w (SoughtOf w) := by
  have HR := Lib.hid hr
  clear hr
  go_enter Try.func26, Try.ntmps26
  go_wp2_with fail
  refine (l01New_at a len cap zs _ HR.out).mono ?_
  rintro e w1 ⟨rfl, ⟨h, c1⟩, g0⟩
  have C1 := Lib.hid c1
  have hpl := c1.lt
  clear c1
  go_wp2_with fail
  refine (l04OddCells_at 12 (by omega) _ _ _ _ _ _ _ _ _ C1.out).mono ?_
  rintro e w2 ⟨g, n, c, i2, h2, ys, rfl, hn, d2⟩
  have D2 := Lib.hid d2
  clear d2
  go_wp2_with fail
  refine (l04Row_at _ _ _ _ _ _ _ _ _ D2.out.cur).mono ?_
  rintro e w3 ⟨R, i3, h3, hR, rfl, c3, g3⟩
  have D3 := Lib.hid (D2.out.draw hpl g3 c3)
  clear c3 g3
  go_wp2_with fail
  refine (l04Col_at _ _ _ _ _ _ _ _ _ D3.out.cur).mono ?_
  rintro e w4 ⟨C, i4, h4, hC, rfl, c4, g4⟩
  have D4 := Lib.hid ((D3.out.draw hpl g4 c4).below (one_below w4 (.cells #[.int .i64 0, .int .i64 1, .int .i64 6, .int .i64 1000000000, .int .i64 (-1)] 3)))
  have P4 := Lib.hid c4.lt
  clear c4 g4
  go_wp2_with fail
  refine (l01PickInt_at (fun x => -1 ≤ x ∧ x ≤ 1000000001) _ _ _ _ _ _ _ _ w4.heap.size 5 5 _ D4.out.cur (by omega) (by omega) (by simp) (by have := P4.out; omega) (new_ints w4 [0, 1, 6, 1000000000, -1] 3 (by decide))).mono ?_
  rintro e w5 ⟨t, i5, h5, ht, rfl, c5, g5⟩
  have D5 := Lib.hid (D4.out.draw hpl g5 c5)
  clear c5 g5
  go_wp2_with fail
  exact bodyPost_ret (res_tmp4 rfl _ _) rfl ⟨g, n, c, ys, R, C, t, rfl, by omega, D5.out.own.row, D5.out.small, hR, hC, ht.1, ht.2, below_new g0 D5.out.grow⟩
end Go.Proofs.Ytejoiaijlaaekaa
