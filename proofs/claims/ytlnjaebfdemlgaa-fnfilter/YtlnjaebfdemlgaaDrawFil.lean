/- The model's draws of lists of keys, and of a filter with a key. -/
import Derived.Test.YtlnjaebfdemlgaaDrawKeys
import Derived.Test.YtlnjaebfdemlgaaFilterS
import Derived.Test.YtlnjaebfdemlgaaStrHelp
import Derived.Test.YtlnjaebfdemlgaaBent
import Derived.Test.YtlnjaebfdemlgaaTake
namespace Go.Proofs.Ytlnjaebfdemlgaa
open Go.RowKit
set_option linter.unusedVariables false

theorem str_at {w W : World} {T p : Nat} {a : Option Addr} {len cap : Nat} {zs : List Int} {i : Nat} {h : Int} {ad : Option Addr} {n cp : Nat} {xs : List ByteArray} (d : Keyed w W T p a len cap zs i h (.slice ad n cp) xs) (hl : xs.length = n) : StrAt W ad n cp xs := d.own.row
theorem fit_of {xs : List ByteArray} {m : Nat} (hm : m ≤ 100000) (h : ∀ x ∈ xs, x.size ≤ m) : FitS xs := fun x hx => Nat.le_trans (h x hx) (by unfold maxLen; omega)
/-- Some list of keys. -/
def KeysOf (w : World) (e : Ending) (w' : World) : Prop := ∃ (ad : Option Addr) (n c : Nat) (xs : List ByteArray), e = .returned (.slice ad n c) ∧ n ≤ 201 ∧ StrAt w' ad n c xs ∧ (∀ x ∈ xs, x.size ≤ 60) ∧ Below w.heap.size w w'

set_option maxHeartbeats 2000000 in
set_option maxRecDepth 100000 in
theorem drawFilter_at (a : Option Addr) (len cap : Nat) (zs : List Int) (w : World) (hr : Bytes w w.heap.size a len zs) :
    Calls Try.prog 12 #[.slice a len cap] w (KeysOf w) := by
  have HR := Lib.hid hr
  clear hr
  go_enter Try.func12, Try.ntmps12
  go_wp2_with fail
  refine (l01New_at a len cap zs _ HR.out).mono ?_
  rintro e w1 ⟨rfl, ⟨h, c1⟩, g0⟩
  have C1 := Lib.hid c1
  have hpl := c1.lt
  have G0 := Lib.hid g0
  clear c1 g0
  go_wp2_with fail
  refine (l06Keys_at _ _ _ _ _ _ _ _ _ C1.out).mono ?_
  rintro e w2 ⟨v, xs, i2, h2, rfl, hn, hs, d2⟩
  obtain ⟨ad, cp, rfl⟩ := d2.own.form
  have D2 := Lib.hid d2
  have HS := Lib.hid hs
  clear d2 hs
  go_wp2_with fail
  refine (l01Once_at _ _ _ _ _ _ _ _ 20 _ D2.out.cur (by omega) (by omega)).mono ?_
  rintro e w3 ⟨b3, i3, h3, rfl, c3, g3⟩
  have D3 := Lib.hid (D2.out.draw hpl g3 c3)
  clear c3 g3
  cases b3
  · go_wp2
    go_ret
    exact ⟨ad, _, cp, xs, rfl, by omega, D3.out.own.row, HS.out, below_new G0.out D3.out.grow⟩
  · go_wp2_with fail
    refine (l01Below_any _ _ _ _ _ _ _ _ 3 _ D3.out.cur (by omega) (by omega)).mono ?_
    rintro e w4 ⟨x, i4, h4, hx0, hx1, rfl, c4, g4⟩
    obtain ⟨x, rfl⟩ := Int.eq_ofNat_of_zero_le hx0
    obtain ⟨N, hN⟩ : ∃ N : Nat, 199 + x = N := ⟨_, rfl⟩
    have hNi : (199 : Int) + (x : Int) = (N : Int) := by omega
    have hN1 : N ≤ 201 := by omega
    have D4 := Lib.hid (D3.out.draw hpl g4 c4)
    obtain ⟨W, hmk, hblk, hbw⟩ := strs_made N w4 (by omega)
    have HW := Lib.hid (And.intro hblk (D4.out.below hbw))
    clear hblk hbw c4 g4 hx0 hx1 hN
    go_wp2
    go_ret
    exact ⟨_, N, N, List.replicate N ⟨#[]⟩, rfl, hN1, HW.out.1.row (by simp), fun x hx => by rw [(List.mem_replicate.1 hx).2]; decide, below_new G0.out HW.out.2.grow⟩

/-- Some filter and some key. -/
def HasOf (w : World) (e : Ending) (w' : World) : Prop := ∃ f k : ByteArray, e = .returned (.tuple #[.string f, .string k]) ∧ f.size ≤ 300 ∧ k.size ≤ 100 ∧ Below w.heap.size w w'
theorem filter_small {xs : List ByteArray} (h : xs.length ≤ 6) : (filterB (lists xs)).length ≤ 250 := by
  rw [filter_len (by rw [lists_len]; omega)]
  exact fsize_le (by rw [lists_len]; omega)

set_option maxHeartbeats 2000000 in
set_option maxRecDepth 100000 in
theorem drawMayHave_at (a : Option Addr) (len cap : Nat) (zs : List Int) (w : World) (hr : Bytes w w.heap.size a len zs) :
    Calls Try.prog 14 #[.slice a len cap] w (HasOf w) := by
  have HR := Lib.hid hr
  clear hr
  go_enter Try.func14, Try.ntmps14
  go_wp2_with fail
  refine (l01New_at a len cap zs _ HR.out).mono ?_
  rintro e w1 ⟨rfl, ⟨h, c1⟩, g0⟩
  have C1 := Lib.hid c1
  have hpl := c1.lt
  have G0 := Lib.hid g0
  clear c1 g0
  go_wp2_with fail
  refine (l06Keys_at _ _ _ _ _ _ _ _ _ C1.out).mono ?_
  rintro e w2 ⟨v, xs, i2, h2, rfl, hn, hs, d2⟩
  obtain ⟨ad, cp, rfl⟩ := d2.own.form
  obtain ⟨n, hl⟩ : ∃ n, xs.length = n := ⟨_, rfl⟩
  have HL := Lib.hid hl
  rw [hl] at d2 hn ⊢
  have D2 := Lib.hid d2
  have HS := Lib.hid hs
  have HF := Lib.hid (fit_of (by omega) hs)
  have hsm := filter_small (xs := xs) (by omega)
  clear d2 hs hl
  go_wp2_with fail
  refine (specFilter ad n cp xs (by omega) HF.out _ D2.out.own.row).mono ?_
  rintro e w3 ⟨rfl, b3⟩
  have D3 := Lib.hid (D2.out.below b3)
  have hncp : n ≤ cp := D2.out.own.row.2.1
  obtain ⟨f, hf⟩ : ∃ f : ByteArray, (⟨(filterB (lists xs)).toArray⟩ : ByteArray) = f := ⟨_, rfl⟩
  have hfs : f.size ≤ 250 := by rw [← hf]; simpa [ByteArray.size] using hsm
  rw [hf]
  clear b3 hf hsm
  go_wp2_with fail
  refine (l01Once_at _ _ _ _ _ _ _ _ 8 _ D3.out.cur (by omega) (by omega)).mono ?_
  rintro e w4 ⟨b4, i4, h4, rfl, c4, g4⟩
  have D4 := Lib.hid (D3.out.draw hpl g4 c4)
  clear c4 g4
  have REST : True := trivial
  cases b4
  · by_cases h0 : n = 0
    · subst h0
      have hpos : ¬ (0 : Int) < ((0 : Nat) : Int) := by omega
      go_wp2_with fail
      refine (l04Row_at _ _ _ _ _ _ _ _ _ D4.out.cur).mono ?_
      rintro e w6 ⟨R, i6, h6, hR, rfl, c6, g6⟩
      have hR : R.size ≤ 40 := hR
      have D6 := Lib.hid (D4.out.draw hpl g6 c6)
      clear c6 g6
      go_wp2
      go_ret2
      exact ⟨f, R, rfl, by omega, by omega, below_new G0.out D6.out.grow⟩
    · have hpos : (0 : Int) < (n : Int) := by omega
      go_wp2_with fail
      refine (l01Once_at _ _ _ _ _ _ _ _ 2 _ D4.out.cur (by omega) (by omega)).mono ?_
      rintro e w5 ⟨b5, i5, h5, rfl, c5, g5⟩
      have D5 := Lib.hid (D4.out.draw hpl g5 c5)
      clear c5 g5
      cases b5
      · go_wp2_with fail
        refine (l04Row_at _ _ _ _ _ _ _ _ _ D5.out.cur).mono ?_
        rintro e w6 ⟨R, i6, h6, hR, rfl, c6, g6⟩
        have hR : R.size ≤ 40 := hR
        have D6 := Lib.hid (D5.out.draw hpl g6 c6)
        clear c6 g6
        go_wp2
        go_ret2
        exact ⟨f, R, rfl, by omega, by omega, below_new G0.out D6.out.grow⟩
      · obtain ⟨y0, hy0⟩ : ∃ y, xs[0]? = some y := ⟨_, List.getElem?_eq_getElem (by rw [HL.out]; omega)⟩
        obtain ⟨g, hag, _⟩ := (str_at D5.out HL.out).2.2 0 y0 hy0
        subst hag
        clear hy0
        have R5 := Lib.hid (str_at D5.out HL.out)
        go_wp2_with fail
        refine wp_region_held_drew (S := fun w' => StrAt w' (some ⟨g, 0, none⟩) n cp xs) (by kernel_rfl) R5.out (fun hHeld => ?_)
        refine takeS_at (i := 0) (d := some 25) (v := ?_) rfl rfl (by kernel_rfl) (by kernel_rfl) (by kernel_rfl) (fun _ _ _ h => h) (by rfl) ?hy hHeld ?_
        case hy => (intro w' hS; clear hS; go_simp <;> with_reducible rfl)
        simp only [Act.put, List.setIfInBounds_toArray, List.set_cons_zero, List.set_cons_succ]
        refine takeS_at (i := 1) (d := some 26) (v := ?_) rfl rfl (by kernel_rfl) (by kernel_rfl) (by kernel_rfl) (fun _ _ _ h => h) (by rfl) ?hy hHeld ?_
        case hy => (intro w' hS; clear hS; go_simp <;> with_reducible rfl)
        simp only [Act.put, List.setIfInBounds_toArray, List.set_cons_zero, List.set_cons_succ]
        refine takeS_at (i := 2) (d := some 27) (v := ?_) rfl rfl (by kernel_rfl) (by kernel_rfl) (by kernel_rfl) (fun _ _ _ h => h) (by rfl) ?hy hHeld ?_
        case hy => (intro w' hS; clear hS; go_simp <;> with_reducible rfl)
        simp only [Act.put, List.setIfInBounds_toArray, List.set_cons_zero, List.set_cons_succ]
        refine takeS_at (i := 3) (d := some 28) (v := ?_) rfl rfl (by kernel_rfl) (by kernel_rfl) (by kernel_rfl) (fun _ _ _ h => h) (by rfl) ?hy hHeld ?_
        case hy => (intro w' hS; clear hS; go_simp <;> with_reducible rfl)
        simp only [Act.put, List.setIfInBounds_toArray, List.set_cons_zero, List.set_cons_succ]
        refine takeS_at (i := 4) (d := some 29) (v := ?_) rfl rfl (by kernel_rfl) (by kernel_rfl) (by kernel_rfl) (fun _ _ _ h => h) (by rfl) ?hy hHeld ?_
        case hy => (intro w' hS; clear hS; go_simp <;> with_reducible rfl)
        simp only [Act.put, List.setIfInBounds_toArray, List.set_cons_zero, List.set_cons_succ]
        refine wpAnyH_ready (rs := [5]) (by kernel_rfl) (by simp) ?_
        refine AllReadyH.cons rfl (fun K hK => ?_) AllReadyH.nil
        go_simp
        refine (l01Below_any _ _ _ _ _ _ _ _ n _ (CurAt.below D5.out.cur (below_draws 1)) (by omega) (by omega)).mono ?_
        rintro e w6 ⟨x, i6, h6, hx0, hx1, rfl, c6, g6⟩
        obtain ⟨x, rfl⟩ := Int.eq_ofNat_of_zero_le hx0
        have D6 := Lib.hid ((D5.out.below (below_draws 1)).draw hpl g6 c6)
        have R6 := Lib.hid (str_at D6.out HL.out)
        obtain ⟨key, hkey⟩ : ∃ y, xs[x]? = some y := ⟨_, List.getElem?_eq_getElem (by rw [HL.out]; omega)⟩
        have HKEY := Lib.hid hkey
        have hk60 := HS.out key (List.mem_of_getElem? hkey)
        have x1 : (x : Int) < (n : Int) := by omega
        have x0 : (0 : Int) ≤ (x : Int) := by omega
        clear c6 g6 hx0 hx1 hkey
        go_wp2_with fail
        refine hK.out _ _ R6.out (fun hHeld => ?_)
        clear hK K
        refine takeS_at (i := 8) (d := some 2) (v := ?_) rfl rfl (by kernel_rfl) (by kernel_rfl) (by kernel_rfl) (fun _ _ _ h => h) (by rfl) ?hy hHeld ?_
        case hy => (intro w' hS; clear hS; go_simp <;> with_reducible rfl)
        simp only [Act.put, List.setIfInBounds_toArray, List.set_cons_zero, List.set_cons_succ]
        refine takeS_at (i := 6) (d := some 31) (v := ?_) rfl rfl (by kernel_rfl) (by kernel_rfl) (by kernel_rfl) (fun _ _ _ h => h) (by rfl) ?hy hHeld ?_
        case hy => (intro w' hS; obtain ⟨g', hg', hc⟩ := hS.2.2 x key HKEY.out; cases hg'; clear hS; go_simp <;> with_reducible rfl)
        simp only [Act.put, List.setIfInBounds_toArray, List.set_cons_zero, List.set_cons_succ]
        refine takeS_at (i := 7) (d := some 32) (v := ?_) rfl rfl (by kernel_rfl) (by kernel_rfl) (by kernel_rfl) (fun _ _ _ h => h) (by rfl) ?hy hHeld ?_
        case hy => (intro w' hS; obtain ⟨g', hg', hc⟩ := hS.2.2 x key HKEY.out; cases hg'; clear hS; go_simp <;> with_reducible rfl)
        simp only [Act.put, List.setIfInBounds_toArray, List.set_cons_zero, List.set_cons_succ]
        refine takeS_at (i := 9) (d := some 3) (v := ?_) rfl rfl (by kernel_rfl) (by kernel_rfl) (by kernel_rfl) (fun _ _ _ h => h) (by rfl) ?hy hHeld ?_
        case hy => (intro w' hS; clear hS; go_simp <;> with_reducible rfl)
        simp only [Act.put, List.setIfInBounds_toArray, List.set_cons_zero, List.set_cons_succ]
        refine wpAnyH_done (by kernel_rfl) ?_ _
        go_wp2
        go_ret2
        exact ⟨f, key, rfl, by omega, by omega, below_new G0.out D6.out.grow⟩
  · go_wp2_with fail
    refine (l01Bent_at _ _ _ _ _ _ _ _ f _ D4.out.cur (by omega)).mono ?_
    rintro e w7 ⟨fb, i7, h7, hfb, rfl, c7, g7⟩
    have hfb : fb.size ≤ f.size + 2 := hfb
    have D4 := Lib.hid (D4.out.draw hpl g7 c7)
    clear c7 g7
    by_cases h0 : n = 0
    · subst h0
      have hpos : ¬ (0 : Int) < ((0 : Nat) : Int) := by omega
      go_wp2_with fail
      refine (l04Row_at _ _ _ _ _ _ _ _ _ D4.out.cur).mono ?_
      rintro e w6 ⟨R, i6, h6, hR, rfl, c6, g6⟩
      have hR : R.size ≤ 40 := hR
      have D6 := Lib.hid (D4.out.draw hpl g6 c6)
      clear c6 g6
      go_wp2
      go_ret2
      exact ⟨fb, R, rfl, by omega, by omega, below_new G0.out D6.out.grow⟩
    · have hpos : (0 : Int) < (n : Int) := by omega
      go_wp2_with fail
      refine (l01Once_at _ _ _ _ _ _ _ _ 2 _ D4.out.cur (by omega) (by omega)).mono ?_
      rintro e w5 ⟨b5, i5, h5, rfl, c5, g5⟩
      have D5 := Lib.hid (D4.out.draw hpl g5 c5)
      clear c5 g5
      cases b5
      · go_wp2_with fail
        refine (l04Row_at _ _ _ _ _ _ _ _ _ D5.out.cur).mono ?_
        rintro e w6 ⟨R, i6, h6, hR, rfl, c6, g6⟩
        have hR : R.size ≤ 40 := hR
        have D6 := Lib.hid (D5.out.draw hpl g6 c6)
        clear c6 g6
        go_wp2
        go_ret2
        exact ⟨fb, R, rfl, by omega, by omega, below_new G0.out D6.out.grow⟩
      · obtain ⟨y0, hy0⟩ : ∃ y, xs[0]? = some y := ⟨_, List.getElem?_eq_getElem (by rw [HL.out]; omega)⟩
        obtain ⟨g, hag, _⟩ := (str_at D5.out HL.out).2.2 0 y0 hy0
        subst hag
        clear hy0
        have R5 := Lib.hid (str_at D5.out HL.out)
        go_wp2_with fail
        refine wp_region_held_drew (S := fun w' => StrAt w' (some ⟨g, 0, none⟩) n cp xs) (by kernel_rfl) R5.out (fun hHeld => ?_)
        refine takeS_at (i := 0) (d := some 25) (v := ?_) rfl rfl (by kernel_rfl) (by kernel_rfl) (by kernel_rfl) (fun _ _ _ h => h) (by rfl) ?hy hHeld ?_
        case hy => (intro w' hS; clear hS; go_simp <;> with_reducible rfl)
        simp only [Act.put, List.setIfInBounds_toArray, List.set_cons_zero, List.set_cons_succ]
        refine takeS_at (i := 1) (d := some 26) (v := ?_) rfl rfl (by kernel_rfl) (by kernel_rfl) (by kernel_rfl) (fun _ _ _ h => h) (by rfl) ?hy hHeld ?_
        case hy => (intro w' hS; clear hS; go_simp <;> with_reducible rfl)
        simp only [Act.put, List.setIfInBounds_toArray, List.set_cons_zero, List.set_cons_succ]
        refine takeS_at (i := 2) (d := some 27) (v := ?_) rfl rfl (by kernel_rfl) (by kernel_rfl) (by kernel_rfl) (fun _ _ _ h => h) (by rfl) ?hy hHeld ?_
        case hy => (intro w' hS; clear hS; go_simp <;> with_reducible rfl)
        simp only [Act.put, List.setIfInBounds_toArray, List.set_cons_zero, List.set_cons_succ]
        refine takeS_at (i := 3) (d := some 28) (v := ?_) rfl rfl (by kernel_rfl) (by kernel_rfl) (by kernel_rfl) (fun _ _ _ h => h) (by rfl) ?hy hHeld ?_
        case hy => (intro w' hS; clear hS; go_simp <;> with_reducible rfl)
        simp only [Act.put, List.setIfInBounds_toArray, List.set_cons_zero, List.set_cons_succ]
        refine takeS_at (i := 4) (d := some 29) (v := ?_) rfl rfl (by kernel_rfl) (by kernel_rfl) (by kernel_rfl) (fun _ _ _ h => h) (by rfl) ?hy hHeld ?_
        case hy => (intro w' hS; clear hS; go_simp <;> with_reducible rfl)
        simp only [Act.put, List.setIfInBounds_toArray, List.set_cons_zero, List.set_cons_succ]
        refine wpAnyH_ready (rs := [5]) (by kernel_rfl) (by simp) ?_
        refine AllReadyH.cons rfl (fun K hK => ?_) AllReadyH.nil
        go_simp
        refine (l01Below_any _ _ _ _ _ _ _ _ n _ (CurAt.below D5.out.cur (below_draws 1)) (by omega) (by omega)).mono ?_
        rintro e w6 ⟨x, i6, h6, hx0, hx1, rfl, c6, g6⟩
        obtain ⟨x, rfl⟩ := Int.eq_ofNat_of_zero_le hx0
        have D6 := Lib.hid ((D5.out.below (below_draws 1)).draw hpl g6 c6)
        have R6 := Lib.hid (str_at D6.out HL.out)
        obtain ⟨key, hkey⟩ : ∃ y, xs[x]? = some y := ⟨_, List.getElem?_eq_getElem (by rw [HL.out]; omega)⟩
        have HKEY := Lib.hid hkey
        have hk60 := HS.out key (List.mem_of_getElem? hkey)
        have x1 : (x : Int) < (n : Int) := by omega
        have x0 : (0 : Int) ≤ (x : Int) := by omega
        clear c6 g6 hx0 hx1 hkey
        go_wp2_with fail
        refine hK.out _ _ R6.out (fun hHeld => ?_)
        clear hK K
        refine takeS_at (i := 8) (d := some 2) (v := ?_) rfl rfl (by kernel_rfl) (by kernel_rfl) (by kernel_rfl) (fun _ _ _ h => h) (by rfl) ?hy hHeld ?_
        case hy => (intro w' hS; clear hS; go_simp <;> with_reducible rfl)
        simp only [Act.put, List.setIfInBounds_toArray, List.set_cons_zero, List.set_cons_succ]
        refine takeS_at (i := 6) (d := some 31) (v := ?_) rfl rfl (by kernel_rfl) (by kernel_rfl) (by kernel_rfl) (fun _ _ _ h => h) (by rfl) ?hy hHeld ?_
        case hy => (intro w' hS; obtain ⟨g', hg', hc⟩ := hS.2.2 x key HKEY.out; cases hg'; clear hS; go_simp <;> with_reducible rfl)
        simp only [Act.put, List.setIfInBounds_toArray, List.set_cons_zero, List.set_cons_succ]
        refine takeS_at (i := 7) (d := some 32) (v := ?_) rfl rfl (by kernel_rfl) (by kernel_rfl) (by kernel_rfl) (fun _ _ _ h => h) (by rfl) ?hy hHeld ?_
        case hy => (intro w' hS; obtain ⟨g', hg', hc⟩ := hS.2.2 x key HKEY.out; cases hg'; clear hS; go_simp <;> with_reducible rfl)
        simp only [Act.put, List.setIfInBounds_toArray, List.set_cons_zero, List.set_cons_succ]
        refine takeS_at (i := 9) (d := some 3) (v := ?_) rfl rfl (by kernel_rfl) (by kernel_rfl) (by kernel_rfl) (fun _ _ _ h => h) (by rfl) ?hy hHeld ?_
        case hy => (intro w' hS; clear hS; go_simp <;> with_reducible rfl)
        simp only [Act.put, List.setIfInBounds_toArray, List.set_cons_zero, List.set_cons_succ]
        refine wpAnyH_done (by kernel_rfl) ?_ _
        go_wp2
        go_ret2
        exact ⟨fb, key, rfl, by omega, by omega, below_new G0.out D6.out.grow⟩
end Go.Proofs.Ytlnjaebfdemlgaa
