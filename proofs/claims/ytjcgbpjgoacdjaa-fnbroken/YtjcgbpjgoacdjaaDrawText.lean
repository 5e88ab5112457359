/- The model's draw of a text: it ends, and the text is as long as asked. -/
import Derived.Test.YtjcgbpjgoacdjaaZ4
import Derived.Test.YtjcgbpjgoacdjaaZ5
import Derived.Laws.BytesArg
import Derived.RangeFuncBox
import Derived.Deep.LoopGhost
import Derived.Deep.DeepCutAuto
namespace Go.Proofs.Ytjcgbpjgoacdjaa
open Go.RowKit
set_option linter.unusedVariables false

structure TextAt (w0 w : World) (E T p : Nat) (a : Option Addr) (len cap : Nat) (zs : List Int) (i : Nat) (h : Int) (g c : Nat) (xs : List Int) : Prop where
 row : w.ownsRow w0.heap.size E 1 (.slice (some ⟨g, 0, none⟩) xs.length c) xs.length (xs.map (Value.int .u8))
 cur : CurAt w T p a len cap zs i h
 grown : w0.grownBy w (some p)

def Old (w0 : World) (p : Nat) (a : Option Addr) (len : Nat) : Prop := p < w0.heap.size ∧ ∀ x, a = some x → x.block < w0.heap.size ∨ len = 0

theorem CurAt.old {w : World} {T p : Nat} {a : Option Addr} {len cap : Nat} {zs : List Int} {i : Nat} {h : Int} (c : CurAt w T p a len cap zs i h) : Old w p a len := by
 refine ⟨c.lt, fun x hx => ?_⟩
 by_cases h0 : len = 0
 · exact Or.inr h0
 · obtain ⟨b, off, ha, hb, _⟩ := c.bytes.2 0 (by omega)
   rw [hx] at ha
   cases ha
   exact Or.inl hb

section
variable {w0 w w1 : World} {E T p : Nat} {a : Option Addr} {len cap : Nat} {zs : List Int} {i : Nat} {h : Int} {g c : Nat} {xs : List Int}

theorem TextAt.own (t : TextAt w0 w E T p a len cap zs i h g c xs) : w0.heap.size ≤ g ∧ g < w.heap.size := t.row.lt g rfl

theorem TextAt.drawn (t : TextAt w0 w E T p a len cap zs i h g c xs) (ho : Old w0 p a len) {i' : Nat} {h' : Int} (c1 : CurAt w1 T p a len cap zs i' h') (g1 : w.grownBy w1 (some p)) : TextAt w0 w1 E T p a len cap zs i' h' g c xs :=
 ⟨t.row.kept g1 (Or.inr (by have := t.own.1; have := ho.1; simp only [Value.ownBlock]; intro e; cases e; omega)), c1, t.grown.trans g1⟩

theorem TextAt.push (t : TextAt w0 w E T p a len cap zs i h g c xs) (ho : Old w0 p a len) (o : Obj) (x : Int) {v' : Value} {w' : World}
   (hown : w'.ownsRow w0.heap.size E 1 v' (xs.length + 1) (xs.map (Value.int .u8) ++ [.int .u8 x])) (hg : (w.alloc o).grownBy w' (some g)) :
   ∃ g' c', v' = .slice (some ⟨g', 0, none⟩) (xs.length + 1) c' ∧ TextAt w0 w' E T p a len cap zs i h g' c' (xs ++ [x]) := by
 obtain ⟨g', c', rfl⟩ := ownsRow_succ hown
 have hgo := t.own
 have hge : w.grownBy w' (some g) := ((World.grownBy_alloc w o none).but (some g)).trans hg
 refine ⟨g', c', rfl, ⟨by simpa using hown, t.cur.kept hge (fun e => by cases e; have := ho.1; omega) (fun y hy => ?_), ?_⟩⟩
 · rcases ho.2 y hy with h1 | h1
   · exact Or.inl (fun e => by cases e; omega)
   · exact Or.inr h1
 · exact t.grown.andThen hge (fun j e => by cases e; exact Or.inl hgo.1)

theorem TextAt.cell (t : TextAt w0 w E T p a len cap zs i h g c xs) (j : Nat) (hj : j < xs.length) : w.cell? ⟨g, j, none⟩ = some (.int .u8 (xs.getD j 0)) := by
 have := t.row.cells (g := g) rfl j (.int .u8 (xs.getD j 0)) (by simp [List.getElem?_eq_getElem hj])
 have e : (⟨g, 0, none⟩ : Addr).add j = ⟨g, j, none⟩ := by
   unfold Addr.add; split
   · subst_vars; rfl
   · simp
 rwa [e] at this

theorem TextAt.room (t : TextAt w0 w E T p a len cap zs i h g c xs) : xs.length ≤ c ∧ c ≤ maxLen := by
 rcases t.row.2 with ⟨h0, _⟩ | ⟨g', c', cur, h1, _, _, h2, h3, _⟩
 · cases h0
 · cases h1; exact ⟨h2, h3⟩
end

theorem Ends.next {len : Nat} {zs : List Int} {n k : Nat} {s s' : Nat × Nat × Int} (he : Ends len zs n k s) (hl : s.1 < n) (e : tStep len zs s = s') : ∃ k', k' < k ∧ Ends len zs n k' s' := by
 subst e
 cases k with
 | zero => simp only [Ends] at he; omega
 | succ k =>
   rcases he with h1 | h1
   · omega
   · exact ⟨k, by omega, h1⟩

theorem five (x : Int) : x % 5 = 0 ∨ x % 5 = 1 ∨ x % 5 = 2 ∨ x % 5 = 3 ∨ x % 5 = 4 := by omega

theorem info8 : (Try.prog.info? 5).map (fun i => (i.zero, i.size, i.bytes)) = some (some (.int .u8 0), 1, 1) := by kernel_rfl

theorem wp_push {w0 w : World} {T p : Nat} {a : Option Addr} {len cap : Nat} {zs : List Int} {i : Nat} {h : Int} {g c : Nat} {xs : List Int} (y : Int)
   {ops : Array Oper} {rest : List Oper} {o : Oper} {act : Act} {Q : Exit → Act → World → Prop} (hgd : o.guard = none) (s x : Operand)
   (hop : o.op = .call { callee := .builtin .append, args := #[s, x], argTypes := #[22, 22] })
   (hs : act.eval s = .slice (some ⟨g, 0, none⟩) xs.length c) (hx : act.eval x = .slice (some ⟨w.heap.size, 0, none⟩) 1 1)
   (t : TextAt w0 w 5 T p a len cap zs i h g c xs) (ho : Old w0 p a len) (hl : xs.length < 1000)
   (hk : ∀ g' c' w', TextAt w0 w' 5 T p a len cap zs i h g' c' (xs ++ [y]) → wpList Try.prog ops Q rest (act.put o.dst (.slice (some ⟨g', 0, none⟩) (xs.length + 1) c')) w') :
   wpList Try.prog ops Q (o :: rest) act (w.alloc (.cells #[.int .u8 y] 5)) := by
 obtain ⟨ti, hti, hz0, hz1, hz2⟩ := info_parts info8
 refine wpList_append_own _ hgd s x 22 hop w0.heap.size 5 ti (.int .u8 0) 1 1 Try.underlying22 hti hz0 hz1 hz2 rfl (by decide) _ xs.length (xs.map (Value.int .u8)) hs (t.row.alloc _)
   ⟨w.heap.size, 0, none⟩ 1 1 [.int .u8 y] hx rfl (cell_one_new _ _ _) (fun u hu => by simp at hu; subst hu; rfl) (by unfold maxLen; omega) (by omega) (by have := t.grown.size; simp; omega) ?_
 intro v' w' hown hg _
 obtain ⟨g', c', rfl, t'⟩ := t.push ho _ y hown hg
 exact hk g' c' w' t'

def SomeText (n : Nat) (T p : Nat) (a : Option Addr) (len cap : Nat) (zs : List Int) (w : World) (e : Ending) (w' : World) : Prop :=
 ∃ s : ByteArray, ∃ i h, s.size = n ∧ e = .returned (.string s) ∧ CurAt w' T p a len cap zs i h ∧ w.grownBy w' (some p)

set_option maxHeartbeats 1000000 in
set_option maxRecDepth 100000 in
theorem l01Text_at (T p : Nat) (a : Option Addr) (len cap : Nat) (zs : List Int) (i0 : Nat) (h0 : Int) (n : Nat) (w : World) (cu : CurAt w T p a len cap zs i0 h0) (hn : n ≤ 200) :
   Calls Try.prog 54 #[.pointer (some ⟨p, 0, none⟩), .int .i64 n] w (SomeText n T p a len cap zs w) := by
 have ho := cu.old
 obtain ⟨k0, hk0⟩ := ends len zs n n 0 i0 h0 (by omega) cu.le
 have CU := Lib.hid cu
 have KE := Lib.hid hk0
 clear cu hk0
 go_enter Try.func54, Try.ntmps54
 go_wp2_with fail
 go_loopg [5] k0 (fun k s wr => ∃ g c xs i h, s = .slice (some ⟨g, 0, none⟩) xs.length c ∧ TextAt w wr 5 T p a len cap zs i h g c xs ∧ Ends len zs n k (xs.length, i, h))
 case atStart =>
   refine ⟨w.heap.size, 0, [], i0, h0, rfl, ⟨?_, ?_, ?_⟩, KE.out⟩
   · exact World.ownsRow_made w #[] 0 (Nat.le_refl _) (by unfold maxLen; omega) (by simp)
   · exact CU.out.kept (World.grownBy_alloc w _ none) (by simp) (fun _ _ => Or.inl (by simp))
   · exact (World.grownBy_alloc w _ none).but _
 case round =>
   obtain ⟨g, c, xs, i, h, rfl, t, hE⟩ := hrel
   have TT := Lib.hid t
   have EE := Lib.hid hE
   clear t hE
   by_cases hlt : xs.length < n
   · rcases five (gByte len zs i h) with h5 | h5 | h5 | h5 | h5
     · have HS : Hid (tStep len zs (xs.length, i, h) = (xs.length + 1, advI len 2 i, lcgN 2 h)) := by unfold tStep; rw [if_neg (by simp only; omega), if_neg (by simp only; omega)]; exact rfl
       go_wp2_with fail
       refine (l01Below_small T p a len cap zs i h 5 _ TT.out.cur (by omega) (by omega)).mono ?_
       unfold gBelow
       rw [h5]
       rintro e w1 ⟨rfl, c1, g1⟩
       have T1 := Lib.hid (TT.out.drawn ho c1 g1)
       clear c1 g1 TT
       go_wp2_with fail
       refine (l01Byte_at T p a len cap zs _ _ _ T1.out.cur).mono ?_
       rintro e w2 ⟨rfl, c2, g2⟩
       have T2 := Lib.hid (T1.out.drawn ho c2 g2)
       clear c2 g2 T1
       have b2 := gByte_bd len zs (gNext len i) (lcg h)
       generalize gByte len zs (gNext len i) (lcg h) = x2 at b2 ⊢
       go_wp2_with (at_builtin; refine wp_push x2 rfl _ _ rfl rfl rfl T2.out ho (by omega) ?_; intro g3 c3 w3 t3; have T3 := Lib.hid t3; clear t3)
       obtain ⟨k', hk', he'⟩ := EE.out.next hlt HS.out
       go_roundg k'
       case measure => exact hk'
       case rel => exact ⟨g3, c3, xs ++ [x2], _, _, by simp, T3.out, by rw [List.length_append]; exact he'⟩
     · have HS : Hid (tStep len zs (xs.length, i, h) = (xs.length + (gByte len zs (advI len 1 i) (lcgN 1 h) % 9).toNat, advI len 3 i, lcgN 3 h)) := by unfold tStep; rw [if_pos h5]; exact rfl
       go_wp2_with fail
       refine (l01Below_small T p a len cap zs i h 5 _ TT.out.cur (by omega) (by omega)).mono ?_
       unfold gBelow
       rw [h5]
       rintro e w1 ⟨rfl, c1, g1⟩
       have T1 := Lib.hid (TT.out.drawn ho c1 g1)
       clear c1 g1 TT
       go_wp2_with fail
       refine (l01Below_small T p a len cap zs _ _ 9 _ T1.out.cur (by omega) (by omega)).mono ?_
       unfold gBelow
       rintro e w2 ⟨rfl, c2, g2⟩
       have T2 := Lib.hid (T1.out.drawn ho c2 g2)
       clear c2 g2 T1
       obtain ⟨kk, ek⟩ : ∃ kk : Nat, gByte len zs (gNext len i) (lcg h) % 9 = (kk : Int) := ⟨(gByte len zs (gNext len i) (lcg h) % 9).toNat, by omega⟩
       have hkk : kk ≤ 8 := by omega
       rw [ek]
       have EK := Lib.hid ek
       clear ek
       go_wp2_with fail
       refine (l01Below_small T p a len cap zs _ _ 4 _ T2.out.cur (by omega) (by omega)).mono ?_
       unfold gBelow
       rintro e w3 ⟨rfl, c3, g3⟩
       have T3 := Lib.hid (T2.out.drawn ho c3 g3)
       clear c3 g3 T2
       obtain ⟨y, hy⟩ : ∃ y : Int, gByte len zs (gNext len (gNext len i)) (lcg (lcg h)) % 4 = y := ⟨_, rfl⟩
       have hy0 : 0 ≤ y := by omega
       have hy1 : y ≤ 3 := by omega
       rw [hy]
       clear hy
       go_wp2_with fail
       go_loopg [5, 8] kk (fun gg s5 s8 wi => ∃ (g4 c4 j : Nat) (ys : List Int), j ≤ kk ∧ gg = kk - j ∧ ys.length = xs.length + j ∧ s5 = .slice (some ⟨g4, 0, none⟩) ys.length c4 ∧ s8 = .int .i64 j ∧ TextAt w wi 5 T p a len cap zs (gNext len (gNext len (gNext len i))) (lcg (lcg (lcg h))) g4 c4 ys)
       case atStart => exact ⟨g, c, 0, xs, Nat.zero_le _, rfl, rfl, rfl, rfl, T3.out⟩
       case round =>
         obtain ⟨g4, c4, j, ys, hj, rfl, hys, rfl, rfl, t4⟩ := hrel
         have T4 := Lib.hid t4
         have HY := Lib.hid hys
         have hyl : ys.length < 300 := by omega
         clear t4 hys
         by_cases hjk : j < kk
         · go_wp2_with (at_builtin; refine wp_push (97 + y) rfl _ _ rfl rfl rfl T4.out ho (by omega) ?_; intro g5 c5 w5 t5; have T5 := Lib.hid t5; clear t5)
           go_roundg (kk - (j + 1))
           case measure => omega
           case rel => exact ⟨g5, c5, j + 1, ys ++ [97 + y], by omega, rfl, by have := HY.out; simp; omega, by simp, by go_num, T5.out⟩
         · go_wp2_with fail
           obtain ⟨k', hk', he'⟩ := EE.out.next hlt HS.out
           go_roundg k'
           case measure => exact hk'
           case rel =>
             refine ⟨g4, c4, ys, _, _, rfl, T4.out, ?_⟩
             have e1 : ys.length = xs.length + (gByte len zs (advI len 1 i) (lcgN 1 h) % 9).toNat := by
               have h1 : gByte len zs (advI len 1 i) (lcgN 1 h) % 9 = (kk : Int) := EK.out
               have := HY.out
               rw [h1]; omega
             rw [e1]; exact he'
     · by_cases hx0 : 0 < xs.length
       · have HS : Hid (tStep len zs (xs.length, i, h) = (xs.length + (gByte len zs (advI len 2 i) (lcgN 2 h) % 20).toNat, advI len 3 i, lcgN 3 h)) := by unfold tStep; rw [if_neg (by simp only; omega), if_pos h5, if_pos hx0]; exact rfl
         go_wp2_with fail
         refine (l01Below_small T p a len cap zs i h 5 _ TT.out.cur (by omega) (by omega)).mono ?_
         unfold gBelow
         rw [h5]
         rintro e w1 ⟨rfl, c1, g1⟩
         have T1 := Lib.hid (TT.out.drawn ho c1 g1)
         clear c1 g1 TT
         go_wp2_with fail
         refine (l01Below_small T p a len cap zs _ _ xs.length _ T1.out.cur (by omega) (by omega)).mono ?_
         unfold gBelow
         rintro e w2 ⟨rfl, c2, g2⟩
         have T2 := Lib.hid (T1.out.drawn ho c2 g2)
         clear c2 g2 T1
         have hm1 := Int.emod_nonneg (gByte len zs (gNext len i) (lcg h)) (b := (xs.length : Int)) (by omega)
         have hm2 := Int.emod_lt_of_pos (gByte len zs (gNext len i) (lcg h)) (b := (xs.length : Int)) (by omega)
         obtain ⟨fr, ef⟩ : ∃ fr : Nat, gByte len zs (gNext len i) (lcg h) % (xs.length : Int) = (fr : Int) := ⟨(gByte len zs (gNext len i) (lcg h) % (xs.length : Int)).toNat, by omega⟩
         rw [ef] at hm1 hm2 ⊢
         have hfr : fr < xs.length := by omega
         clear ef hm1 hm2
         go_wp2_with fail
         refine (l01Below_small T p a len cap zs _ _ 20 _ T2.out.cur (by omega) (by omega)).mono ?_
         unfold gBelow
         rintro e w3 ⟨rfl, c3, g3⟩
         have T3 := Lib.hid (T2.out.drawn ho c3 g3)
         clear c3 g3 T2
         obtain ⟨kk, ek⟩ : ∃ kk : Nat, gByte len zs (gNext len (gNext len i)) (lcg (lcg h)) % 20 = (kk : Int) := ⟨(gByte len zs (gNext len (gNext len i)) (lcg (lcg h)) % 20).toNat, by omega⟩
         have hkk : kk ≤ 19 := by omega
         rw [ek]
         have EK := Lib.hid ek
         clear ek
         go_wp2_with fail
         go_loopg [5, 11] kk (fun gg s5 s8 wi => ∃ (g4 c4 j : Nat) (ys : List Int), j ≤ kk ∧ gg = kk - j ∧ ys.length = xs.length + j ∧ s5 = .slice (some ⟨g4, 0, none⟩) ys.length c4 ∧ s8 = .int .i64 j ∧ TextAt w wi 5 T p a len cap zs (gNext len (gNext len (gNext len i))) (lcg (lcg (lcg h))) g4 c4 ys)
         case atStart => exact ⟨g, c, 0, xs, Nat.zero_le _, rfl, rfl, rfl, rfl, T3.out⟩
         case round =>
           obtain ⟨g4, c4, j, ys, hj, rfl, hys, rfl, rfl, t4⟩ := hrel
           have T4 := Lib.hid t4
           have HY := Lib.hid hys
           have hyl : ys.length < 300 := by omega
           have hfj : fr + j < ys.length := by omega
           have hcell := t4.cell (fr + j) hfj
           obtain ⟨z, hz⟩ : ∃ z, ys.getD (fr + j) 0 = z := ⟨_, rfl⟩
           rw [hz] at hcell
           clear hz
           clear t4 hys
           by_cases hjk : j < kk
           · have i1 : (fr : Int) + (j : Int) < (ys.length : Int) := by omega
             have i2 : ((fr : Int) + (j : Int)).toNat = fr + j := by omega
             go_wp2_with (at_builtin; refine wp_push z rfl _ _ rfl rfl rfl T4.out ho (by omega) ?_; intro g5 c5 w5 t5; have T5 := Lib.hid t5; clear t5)
             go_roundg (kk - (j + 1))
             case measure => omega
             case rel => exact ⟨g5, c5, j + 1, ys ++ [z], by omega, rfl, by have := HY.out; simp; omega, by simp, by go_num, T5.out⟩
           · go_wp2_with fail
             obtain ⟨k', hk', he'⟩ := EE.out.next hlt HS.out
             go_roundg k'
             case measure => exact hk'
             case rel =>
               refine ⟨g4, c4, ys, _, _, rfl, T4.out, ?_⟩
               have e1 : ys.length = xs.length + (gByte len zs (advI len 2 i) (lcgN 2 h) % 20).toNat := by
                 have h1 : gByte len zs (advI len 2 i) (lcgN 2 h) % 20 = (kk : Int) := EK.out
                 have := HY.out
                 rw [h1]; omega
               rw [e1]; exact he'
       · have HS : Hid (tStep len zs (xs.length, i, h) = (xs.length, advI len 1 i, lcgN 1 h)) := by unfold tStep; rw [if_neg (by simp only; omega), if_pos h5, if_neg hx0]; exact rfl
         go_wp2_with fail
         refine (l01Below_small T p a len cap zs i h 5 _ TT.out.cur (by omega) (by omega)).mono ?_
         unfold gBelow
         rw [h5]
         rintro e w1 ⟨rfl, c1, g1⟩
         have T1 := Lib.hid (TT.out.drawn ho c1 g1)
         clear c1 g1 TT
         go_wp2_with fail
         obtain ⟨k', hk', he'⟩ := EE.out.next hlt HS.out
         go_roundg k'
         case measure => exact hk'
         case rel => exact ⟨g, c, xs, _, _, rfl, T1.out, he'⟩
     · have HS : Hid (tStep len zs (xs.length, i, h) = (xs.length + 1, advI len 2 i, lcgN 2 h)) := by unfold tStep; rw [if_neg (by simp only; omega), if_neg (by simp only; omega)]; exact rfl
       go_wp2_with fail
       refine (l01Below_small T p a len cap zs i h 5 _ TT.out.cur (by omega) (by omega)).mono ?_
       unfold gBelow
       rw [h5]
       rintro e w1 ⟨rfl, c1, g1⟩
       have T1 := Lib.hid (TT.out.drawn ho c1 g1)
       clear c1 g1 TT
       go_wp2_with fail
       refine (l01Below_small T p a len cap zs _ _ 26 _ T1.out.cur (by omega) (by omega)).mono ?_
       unfold gBelow
       rintro e w2 ⟨rfl, c2, g2⟩
       have T2 := Lib.hid (T1.out.drawn ho c2 g2)
       clear c2 g2 T1
       obtain ⟨y, hy⟩ : ∃ y : Int, gByte len zs (gNext len i) (lcg h) % 26 = y := ⟨_, rfl⟩
       have hy0 : 0 ≤ y := by omega
       have hy1 : y ≤ 25 := by omega
       rw [hy]
       clear hy
       go_wp2_with (at_builtin; refine wp_push (97 + y) rfl _ _ rfl rfl rfl T2.out ho (by omega) ?_; intro g3 c3 w3 t3; have T3 := Lib.hid t3; clear t3)
       obtain ⟨k', hk', he'⟩ := EE.out.next hlt HS.out
       go_roundg k'
       case measure => exact hk'
       case rel => exact ⟨g3, c3, xs ++ [97 + y], _, _, by simp, T3.out, by rw [List.length_append]; exact he'⟩
     · have HS : Hid (tStep len zs (xs.length, i, h) = (xs.length + 1, advI len 2 i, lcgN 2 h)) := by unfold tStep; rw [if_neg (by simp only; omega), if_neg (by simp only; omega)]; exact rfl
       go_wp2_with fail
       refine (l01Below_small T p a len cap zs i h 5 _ TT.out.cur (by omega) (by omega)).mono ?_
       unfold gBelow
       rw [h5]
       rintro e w1 ⟨rfl, c1, g1⟩
       have T1 := Lib.hid (TT.out.drawn ho c1 g1)
       clear c1 g1 TT
       go_wp2_with fail
       refine (l01Below_small T p a len cap zs _ _ 26 _ T1.out.cur (by omega) (by omega)).mono ?_
       unfold gBelow
       rintro e w2 ⟨rfl, c2, g2⟩
       have T2 := Lib.hid (T1.out.drawn ho c2 g2)
       clear c2 g2 T1
       obtain ⟨y, hy⟩ : ∃ y : Int, gByte len zs (gNext len i) (lcg h) % 26 = y := ⟨_, rfl⟩
       have hy0 : 0 ≤ y := by omega
       have hy1 : y ≤ 25 := by omega
       rw [hy]
       clear hy
       go_wp2_with (at_builtin; refine wp_push (97 + y) rfl _ _ rfl rfl rfl T2.out ho (by omega) ?_; intro g3 c3 w3 t3; have T3 := Lib.hid t3; clear t3)
       obtain ⟨k', hk', he'⟩ := EE.out.next hlt HS.out
       go_roundg k'
       case measure => exact hk'
       case rel => exact ⟨g3, c3, xs ++ [97 + y], _, _, by simp, T3.out, by rw [List.length_append]; exact he'⟩
   · have hcv := run_convert_bytes_arg (P := Try.prog) wr 22 5 Try.underlying22 Try.underlying5 g 0 n c (xs.take n) (by simp; omega) (fun j hj => by
       rw [Nat.zero_add, TT.out.cell j (by omega)]
       simp [hj]) 9 Try.underlying9
     have hnc : n ≤ c := by have := TT.out.room; omega
     go_wp2
     go_ret
     exact ⟨_, i, h, by rw [strOfNums_size]; simp; omega, rfl, TT.out.cur, TT.out.grown⟩
end Go.Proofs.Ytjcgbpjgoacdjaa
