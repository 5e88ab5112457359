/- The model's draw of a table. -/
import Derived.Test.YtkomnnijnggbpaaGreatDoorDrawTab
import Derived.Test.YtkomnnijnggbpaaGreatDoorTabSmall
namespace Go.Proofs.YtkomnnijnggbpaaGreatDoor
open Go.RowKit
set_option linter.unusedVariables false

theorem conf_ok {ev sz : Int} {pk : Bool} (h : 1 ≤ ev ∧ ev ≤ 16 ∧ 1 ≤ sz ∧ sz ≤ 50) : confOk ⟨ev, sz, pk⟩ = true := by
 unfold confOk
 simp only [Bool.and_eq_true, decide_eq_true_eq]
 exact ⟨⟨⟨h.1, h.2.1⟩, h.2.2.1⟩, h.2.2.2⟩
theorem put_is {xs : List Cel} {c : Conf} (h : tabOk xs c) : 38 ≤ (putTable xs c).length ∧ (putTable xs c).length ≤ 130000 := by
 unfold putTable
 rw [if_pos h]
 exact ⟨by have := table_len xs c; omega, table_short h⟩

theorem u8_same {x : Int} (h0 : 0 ≤ x) (h1 : x ≤ 255) : IntKind.u8.wrap x = x := by
 simp [IntKind.wrap, IntKind.bits, IntKind.signed]
 try omega
theorem u8_is {x : Int} (h0 : 0 ≤ x) (h1 : x ≤ 255) : Value.int .u8 x = u8v (UInt8.ofNat x.toNat) := by
 have : ((UInt8.ofNat x.toNat).toNat : Int) = x := by simp; omega
 unfold u8v
 rw [this]
def bare (w : World) : World := { w with heap := #[] }
def Held (w : World) (g : Nat) (xs : List UInt8) : Prop := Buf (bare w) w g xs
theorem Buf.held {w0 w : World} {g : Nat} {xs : List UInt8} (t : Buf w0 w g xs) : Held w g xs := ⟨t.block, Nat.zero_le _, ⟨rfl, rfl, rfl, Nat.zero_le _, fun k hk => absurd hk (Nat.not_lt_zero _)⟩⟩
theorem Held.lt {w : World} {g : Nat} {xs : List UInt8} (t : Held w g xs) : g < w.heap.size := by
 obtain ⟨cs, n, hb, _⟩ := t.block
 exact (Array.getElem?_eq_some_iff.1 hb).1
theorem Held.kept {w w' : World} {g : Nat} {xs : List UInt8} (t : Held w g xs) {p : Option Nat} (hg : w.grownBy w' p) (hne : some g ≠ p) : Held w' g xs := by
 have hlt := t.lt
 obtain ⟨cs, n, hb, h⟩ := t.block
 have h2 : w'.heap[g]? = some (.cells cs 5 (n, n + 1)) := (hg.block g hlt hne).trans hb
 exact ⟨⟨cs, n, h2, h⟩, Nat.zero_le _, ⟨rfl, rfl, rfl, Nat.zero_le _, fun k hk => absurd hk (Nat.not_lt_zero _)⟩⟩

set_option maxHeartbeats 4000000 in
set_option maxRecDepth 100000 in
theorem l07Table_at (T p : Nat) (a : Option Addr) (len cap : Nat) (zs : List Int) (i : Nat) (h : Int) (w : World) (cu : CurAt w T p a len cap zs i h) :
   Calls Tryz.prog 65 #[.pointer (some ⟨p, 0, none⟩)] w (SomeStr (fun x => x.size ≤ 140000) T p a len cap zs w) := by
 have HC := Lib.hid cu
 have hpl := cu.lt
 have hold := Lib.hid (cur_old cu)
 clear cu
 go_enter Tryz.func65, Tryz.ntmps65
 go_wp2_with fail
 refine (l04Cells_ok 10 (by omega) T p a len cap zs i h _ HC.out).mono ?_
 rintro e w2 ⟨g, n, c, i2, h2, ys, rfl, hn, hok, d2⟩
 have D2 := Lib.hid d2
 have HF := Lib.hid (show Fit ys from fun y hy => small_fit (d2.small y hy))
 have hlen := Lib.hid (show ys.length ≤ 12 by have := d2.len; omega)
 have HOK := Lib.hid hok
 clear d2 hok
 go_wp2_with fail
 refine (l07Config_at T p a len cap zs i2 h2 _ D2.out.cur).mono ?_
 rintro e w3 ⟨ev, sz, pk, i3, h3, hcf, rfl, c3, g3⟩
 have D3 := Lib.hid (D2.out.draw hpl g3 c3)
 have HT := Lib.hid (put_is (tab_small HOK.out (conf_ok (pk := pk) hcf) hlen.out))
 clear c3 g3 hcf
 go_wp2_with fail
 refine (specPutTable _ n c ys ev sz pk (by omega) HF.out _ D3.out.own.row.o).mono ?_
 intro e w5 hT
 obtain ⟨S, hS, hSl, rfl, hb⟩ := hT.text
 have hS1 : 38 ≤ S.size := by rw [hSl]; exact HT.out.1
 have hS2 : S.size ≤ 130000 := by rw [hSl]; exact HT.out.2
 have D5 := Lib.hid (D3.out.below hb)
 clear hb hT hS hSl HT
 go_wp2_with fail
 refine (l01Below_any _ _ _ _ _ _ _ _ _ _ D5.out.cur (by omega) (by omega)).mono ?_
 rintro e w6 ⟨k, i6, h6, hk0, hk1, rfl, c6, g6⟩
 have D6 := Lib.hid (D5.out.draw hpl g6 c6)
 clear c6 g6
 by_cases k0 : k = 0
 · subst k0
   go_wp2_with fail
   refine (l01Bent_at _ _ _ _ _ _ _ _ S _ D6.out.cur (by omega)).mono ?_
   rintro e w7 ⟨r, i7, h7, hr, rfl, c7, g7⟩
   have hr : r.size ≤ S.size + 2 := hr
   have D7 := Lib.hid (D6.out.draw hpl g7 c7)
   clear c7 g7
   go_wp2_with fail
   go_ret
   exact ⟨r, i7, h7, by show r.size ≤ 140000; omega, rfl, D7.out.cur, D7.out.grow⟩
 by_cases k1 : k = 1
 · subst k1
   obtain ⟨cp, W, hcv, hbuf, hcap⟩ := buf_new w6 S
   obtain ⟨N, hN⟩ : ∃ N, S.size = N := ⟨_, rfl⟩
   have HN := Lib.hid hN
   have D7 := Lib.hid (D6.out.below hbuf.below)
   have H7 := Lib.hid hbuf.held
   have HLEN := Lib.hid (show S.data.toList.length = N by rw [← hN]; simp)
   obtain ⟨xs, hxs⟩ : ∃ xs, S.data.toList = xs := ⟨_, rfl⟩
   rw [hxs] at H7 HLEN
   rw [hN] at hcv hcap hS1 hS2
   have hgb' : w.heap.size ≤ w6.heap.size := D6.out.grow.size
   clear hN hxs hbuf
   go_wp2_with fail
   clear hcv
   obtain ⟨gb, hgb⟩ : ∃ g, w6.heap.size = g := ⟨_, rfl⟩
   rw [hgb] at H7 hgb' ⊢
   clear hgb
   have hne : gb ≠ p := by omega
   refine (l01Below_any _ _ _ _ _ _ _ _ _ _ D7.out.cur (by omega) (by omega)).mono ?_
   rintro e w8 ⟨k2, i8, h8, k20, k21, rfl, c8, g8⟩
   obtain ⟨k2, rfl⟩ := Int.eq_ofNat_of_zero_le k20
   have D8 := Lib.hid (D7.out.draw hpl g8 c8)
   have H8 := Lib.hid (H7.out.kept g8 (by simpa using hne))
   clear c8 g8
   have s1 : (N : Int) - 38 + (k2 : Int) = ((N - 38 + k2 : Nat) : Int) := by omega
   obtain ⟨q, hq⟩ : ∃ q, N - 38 + k2 = q := ⟨_, rfl⟩
   have hqN : q < N := by omega
   rw [hq] at s1
   clear hq
   go_wp2_with fail
   refine (l01PickInt_at (fun x => 0 ≤ x ∧ x ≤ 255) T p a len cap zs i8 h8 w8.heap.size 5 5 _ (D8.out.cur.new _) (by omega) (by omega) (by simp) (by have := D8.out.cur.lt; omega) (new_ints w8 [0, 1, 2, 7, 255] 3 (by decide))).mono ?_
   rintro e w9 ⟨x, i9, h9, hx, rfl, c9, g9⟩
   have G9 := grown_two (World.grownBy_alloc w8 (.cells #[.int .i64 0, .int .i64 1, .int .i64 2, .int .i64 7, .int .i64 255] 3) (some p)) g9
   have D9 := Lib.hid (D8.out.draw hpl G9 c9)
   have H9 := Lib.hid (H8.out.kept G9 (by simpa using hne))
   have hx0 : 0 ≤ x := hx.1
   have hx1 : x ≤ 255 := hx.2
   clear c9 g9 G9 hx
   have hcell := H9.out.cell q (by rw [HLEN.out]; exact hqN)
   have hfro := H9.out.frozen q (by rw [HLEN.out]; exact hqN)
   have hqi : (q : Int) < (N : Int) := by omega
   have hqc : (q : Int) < (cp : Int) := by omega
   have hwr : IntKind.u8.wrap x = x := u8_same hx0 hx1
   have hcv := (H9.out.set q (UInt8.ofNat x.toNat) (u8_is hx0 hx1)).str (c := cp) (n := N) (by rw [List.length_set]; exact HLEN.out)
   have HSZ := Lib.hid (show (⟨(xs.set q (UInt8.ofNat x.toNat)).toArray⟩ : ByteArray).size ≤ 140000 by
     have h1 : (⟨(xs.set q (UInt8.ofNat x.toNat)).toArray⟩ : ByteArray).size = xs.length := by simp [ByteArray.size]
     rw [h1, HLEN.out]; omega)
   go_wp2_with fail
   go_ret
   exact ⟨_, i9, h9, HSZ.out, rfl, cur_set D9.out.cur hold.out hpl _ _ hgb', grown_set_new D9.out.grow hgb' _ _⟩
 · go_wp2_with fail
   go_ret
   exact ⟨S, i6, h6, by show S.size ≤ 140000; omega, rfl, D6.out.cur, D6.out.grow⟩
end Go.Proofs.YtkomnnijnggbpaaGreatDoor
