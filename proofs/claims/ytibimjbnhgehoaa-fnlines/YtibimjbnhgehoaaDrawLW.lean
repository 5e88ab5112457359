/- The model's draws of texts with line ends and with blanks: which text is drawn hangs on the code alone. -/
import Derived.Test.YtibimjbnhgehoaaPick
namespace Go.Proofs.Ytibimjbnhgehoaa
open Go.RowKit
set_option linter.unusedVariables false

/-- A new cursor's number, step by step. -/
def hNew (len : Nat) (zs : List Int) : Nat → Int
  | 0 => 813813 + len
  | k + 1 => bits .and .i64 (wrap64 (wrap64 (wrap64 (hNew len zs k * 131) + wrap64 (zs[k]?.getD 0)) + 7)) 1073741823

theorem hNew_step (len : Nat) (zs : List Int) (k : Nat) : bits .and .i64 (wrap64 (wrap64 (wrap64 (hNew len zs k * 131) + wrap64 (zs[k]?.getD 0)) + 7)) 1073741823 = hNew len zs (k + 1) := rfl

set_option maxHeartbeats 1000000 in
set_option maxRecDepth 100000 in
theorem l01New_fix (len : Nat) (zs : List Int) (hl : len ≤ 1048576) : ∃ h0 : Int, ∀ (a : Option Addr) (cap : Nat) (w : World), Bytes w w.heap.size a len zs →
    Calls Try.prog 27 #[.slice a len cap] w fun e w' => e = .returned (.pointer (some ⟨w.heap.size, 0, none⟩)) ∧ CurAt w' 46 w.heap.size a len cap zs 0 h0 ∧ w.grownBy w' none := by
  obtain ⟨M, hM⟩ : ∃ M : Nat, (M : Int) = 4000 := ⟨4000, rfl⟩
  refine ⟨hNew len zs (min len M), ?_⟩
  intro a cap w hr
  have HR := Lib.hid hr
  clear hr
  go_enter Try.func27, Try.ntmps27
  go_wp2
  go_loop [3, 4] (fun hh i => ∃ (k : Nat) (h : Int), k ≤ len ∧ k ≤ M ∧ i = .int .i64 k ∧ hh = .int .i64 h ∧ Hid (h = hNew len zs k)) (fun _ i => len - (intOf i).toNat)
  case atStart => exact ⟨0, _, Nat.zero_le _, Nat.zero_le _, rfl, rfl, rfl⟩
  case round =>
    obtain ⟨k, h, hk, hkM, rfl, rfl, HE⟩ := hrel
    by_cases hlt : k < len
    · by_cases h4 : (k : Int) < 4000
      · obtain ⟨b, off, rfl, hb, hne, hc, hr1, hr2⟩ := HR.out.2 k hlt
        have i1 : (k : Int) < (len : Int) := by omega
        go_wp2
        go_round
        case rel => exact ⟨k + 1, _, by omega, by omega, by go_num, rfl, by show _ = _; rw [HE.out]; exact hNew_step len zs k⟩
        case measure => simp [intOf]; omega
      · go_wp2
        go_ret
        have e : min len M = k := by omega
        rw [e, ← HE.out]
        exact ⟨rfl, cur_new HR.out, World.grownBy_alloc _ _ _⟩
    · go_wp2
      go_ret
      have e : min len M = k := by omega
      rw [e, ← HE.out]
      exact ⟨rfl, cur_new HR.out, World.grownBy_alloc _ _ _⟩

theorem gBelow_bd (len : Nat) (zs : List Int) (i : Nat) (h : Int) {m : Nat} (hm : 1 ≤ m) : 0 ≤ gBelow len zs i h m ∧ gBelow len zs i h m < m := by
  unfold gBelow
  exact ⟨Int.emod_nonneg _ (by omega), Int.emod_lt_of_pos _ (by omega)⟩

set_option maxHeartbeats 400000 in
theorem l01Pick_fix (f : Nat → ByteArray) (T p : Nat) (a : Option Addr) (len cap : Nat) (zs : List Int) (i : Nat) (h : Int) (g m c : Nat) (w : World) (cu : CurAt w T p a len cap zs i h)
    (h1 : 1 ≤ m) (h2 : m ≤ 256) (hg : g < w.heap.size) (hp : g ≠ p) (hc : ∀ j, j < m → w.cell? ⟨g, j, none⟩ = some (.string (f j))) :
    Calls Try.prog 29 #[.pointer (some ⟨p, 0, none⟩), .slice (some ⟨g, 0, none⟩) m c] w
      fun e w' => e = .returned (.string (f (gBelow len zs i h m).toNat)) ∧ CurAt w' T p a len cap zs (gNext len i) (lcg h) ∧ w.grownBy w' (some p) := by
  have HC := Lib.hid cu
  have HH := Lib.hid hc
  clear cu hc
  have hbd := gBelow_bd len zs i h h1
  generalize hy : gBelow len zs i h m = y at hbd ⊢
  have HY := Lib.hid hy
  clear hy
  go_enter Try.func29, Try.ntmps29
  go_wp2_with fail
  refine (l01Below_small _ _ _ _ _ _ _ _ _ _ HC.out (by omega) (by omega)).mono ?_
  rw [HY.out]
  rintro e w1 ⟨rfl, c1, g1⟩
  clear HY
  obtain ⟨y, rfl⟩ := Int.eq_ofNat_of_zero_le hbd.1
  have C1 := Lib.hid c1
  clear c1
  have hx := HH.out y (by omega)
  have hx1 : w1.cell? ⟨g, y, none⟩ = some (.string (f y)) := (World.cell?_of_block (w := w) (g1.block g hg (by simpa using hp))).trans hx
  clear hx HH
  have e0 : (Int.ofNat y).toNat = y := rfl
  go_wp2
  go_ret
  exact ⟨rfl, C1.out, g1⟩

/-- A text of pieces, step by step. -/
def pieced (f : Nat → ByteArray) (m : Nat) (len : Nat) (zs : List Int) (i : Nat) (h : Int) : Nat → ByteArray × Nat × Int
  | 0 => (⟨#[]⟩, i, h)
  | k + 1 => let r := pieced f m len zs i h k; (r.1 ++ f (gBelow len zs r.2.1 r.2.2 m).toNat, gNext len r.2.1, lcg r.2.2)

theorem pieced_len (f : Nat → ByteArray) (m len : Nat) (zs : List Int) (i : Nat) (h : Int) (hf : ∀ j, (f j).size ≤ 2) : ∀ k, (pieced f m len zs i h k).1.size ≤ 2 * k
  | 0 => by simp only [pieced]; decide
  | k + 1 => by
    have := pieced_len f m len zs i h hf k
    have h2 := hf (gBelow len zs (pieced f m len zs i h k).2.1 (pieced f m len zs i h k).2.2 m).toNat
    simp only [pieced, ByteArray.size_append]
    omega

def lineParts : List ByteArray := [⟨#[97]⟩, ⟨#[10]⟩, ⟨#[98, 99]⟩, ⟨#[]⟩, ⟨#[10, 10]⟩]
def wordParts : List ByteArray := [⟨#[97]⟩, ⟨#[32]⟩, ⟨#[98, 99]⟩, ⟨#[9]⟩, ⟨#[]⟩, ⟨#[10]⟩]
def oneOf (l : List ByteArray) (j : Nat) : ByteArray := l.getD j ⟨#[]⟩

theorem oneOf_cell (w : World) (l : List ByteArray) (T j : Nat) (hj : j < l.length) : (w.alloc (.cells (l.map Value.string).toArray T)).cell? ⟨w.heap.size, j, none⟩ = some (.string (oneOf l j)) := by
  rw [new_cell]
  simp [oneOf, hj]

theorem oneOf_len (l : List ByteArray) (h : ∀ x ∈ l, x.size ≤ 2) (j : Nat) : (oneOf l j).size ≤ 2 := by
  unfold oneOf
  rw [List.getD_eq_getElem?_getD]
  cases e : l[j]? with
  | none => show (⟨#[]⟩ : ByteArray).size ≤ 2; decide
  | some x => exact h x (List.mem_of_getElem? e)

set_option maxHeartbeats 1000000 in
theorem drawWords_fix (len : Nat) (zs : List Int) (hl : len ≤ 1048576) : ∃ t : ByteArray, t.size ≤ 12 ∧ ∀ (a : Option Addr) (cap : Nat) (w : World), Bytes w w.heap.size a len zs →
    Calls Try.prog 14 #[.slice a len cap] w fun e w' => e = .returned (.string t) ∧ Below w.heap.size w w' := by
  obtain ⟨h0, hNewFix⟩ := l01New_fix len zs hl
  have hbd := gBelow_bd len zs 0 h0 (m := 7) (by omega)
  obtain ⟨n, hn⟩ : ∃ n : Nat, gBelow len zs 0 h0 7 = n := ⟨(gBelow len zs 0 h0 7).toNat, by have := hbd.1; simp at this ⊢; omega⟩
  have hn6 : n ≤ 6 := by have h := hbd.2; rw [show ((7 : Nat) : Int) = 7 from rfl, hn] at h; omega
  refine ⟨(pieced (oneOf wordParts) 6 len zs (gNext len 0) (lcg h0) n).1, Nat.le_trans (pieced_len _ _ _ _ _ _ (oneOf_len _ (by decide)) n) (by omega), ?_⟩
  intro a cap w hr
  have HR := Lib.hid hr
  have HN := Lib.hid hn
  clear hr hbd hn
  go_enter Try.func14, Try.ntmps14
  go_wp2_with fail
  refine (hNewFix a cap _ HR.out).mono ?_
  rintro e w1 ⟨rfl, c1, g0⟩
  have C1 := Lib.hid c1
  clear c1
  go_wp2_with fail
  refine (l01Below_small _ _ _ _ _ _ _ _ _ _ C1.out (by omega) (by omega)).mono ?_
  rw [HN.out]
  rintro e w2 ⟨rfl, c2, g2⟩
  have C2 := Lib.hid c2
  clear c2
  go_wp2_with fail
  go_loopw [4, 6] (fun ss ii wr => ∃ k : Nat, k ≤ n ∧ ii = .int .i64 k ∧ ∃ (s : ByteArray) (i : Nat) (h : Int), ss = .string s ∧ s.size ≤ 2 * k ∧ CurAt wr 46 w.heap.size a len cap zs i h ∧ w1.grownBy wr (some w.heap.size) ∧ Hid (pieced (oneOf wordParts) 6 len zs (gNext len 0) (lcg h0) k = (s, i, h))) (fun _ ii _ => n - (intOf ii).toNat)
  case atStart => exact ⟨0, Nat.zero_le _, rfl, _, _, _, rfl, by decide, C2.out, g2, rfl⟩
  case round =>
    obtain ⟨k, hk, rfl, s, i, h, rfl, hs, c, g, HP⟩ := hrel
    have CC := Lib.hid c
    clear c
    by_cases hlt : k < n
    · have i1 : (k : Int) < (n : Int) := by omega
      have HS : pieced (oneOf wordParts) 6 len zs (gNext len 0) (lcg h0) (k + 1) = (s ++ oneOf wordParts (gBelow len zs i h 6).toNat, gNext len i, lcg h) := by
        rw [pieced, HP.out]; rfl
      have HS := Lib.hid HS
      have hol := oneOf_len wordParts (by decide) (gBelow len zs i h 6).toNat
      go_wp2_with fail
      refine (l01Pick_fix (oneOf wordParts) _ _ _ _ _ _ _ _ wr.heap.size 6 6 _ (CC.out.kept (World.grownBy_alloc wr _ none) (by simp) (fun _ _ => Or.inl (by simp))) (by omega) (by omega) (by simp) (by have := CC.out.lt; omega) (fun j hj => oneOf_cell wr wordParts 9 j hj)).mono ?_
      rintro e w3 ⟨rfl, c3, g3⟩
      have C3 := Lib.hid c3
      clear c3
      generalize oneOf wordParts (gBelow len zs i h ((6 : Nat) : Int)).toNat = x at *
      go_wp2_with fail
      go_roundw
      case rel => exact ⟨k + 1, by omega, by go_num, _, _, _, rfl, by rw [ByteArray.size_append]; omega, C3.out, (g.trans ((World.grownBy_alloc wr _ none).but _)).trans g3, HS.out⟩
      case measure => simp [intOf]; omega
    · obtain rfl : k = n := by omega
      go_wp2_with fail
      go_ret
      exact ⟨by rw [HP.out]; rfl, below_new g0 g⟩

set_option maxHeartbeats 1000000 in
theorem drawLines_fix (len : Nat) (zs : List Int) (hl : len ≤ 1048576) : ∃ t : ByteArray, t.size ≤ 12 ∧ ∀ (a : Option Addr) (cap : Nat) (w : World), Bytes w w.heap.size a len zs →
    Calls Try.prog 11 #[.slice a len cap] w fun e w' => e = .returned (.string t) ∧ Below w.heap.size w w' := by
  obtain ⟨h0, hNewFix⟩ := l01New_fix len zs hl
  have hbd := gBelow_bd len zs 0 h0 (m := 7) (by omega)
  obtain ⟨n, hn⟩ : ∃ n : Nat, gBelow len zs 0 h0 7 = n := ⟨(gBelow len zs 0 h0 7).toNat, by have := hbd.1; simp at this ⊢; omega⟩
  have hn6 : n ≤ 6 := by have h := hbd.2; rw [show ((7 : Nat) : Int) = 7 from rfl, hn] at h; omega
  refine ⟨(pieced (oneOf lineParts) 5 len zs (gNext len 0) (lcg h0) n).1, Nat.le_trans (pieced_len _ _ _ _ _ _ (oneOf_len _ (by decide)) n) (by omega), ?_⟩
  intro a cap w hr
  have HR := Lib.hid hr
  have HN := Lib.hid hn
  clear hr hbd hn
  go_enter Try.func11, Try.ntmps11
  go_wp2_with fail
  refine (hNewFix a cap _ HR.out).mono ?_
  rintro e w1 ⟨rfl, c1, g0⟩
  have C1 := Lib.hid c1
  clear c1
  go_wp2_with fail
  refine (l01Below_small _ _ _ _ _ _ _ _ _ _ C1.out (by omega) (by omega)).mono ?_
  rw [HN.out]
  rintro e w2 ⟨rfl, c2, g2⟩
  have C2 := Lib.hid c2
  clear c2
  go_wp2_with fail
  go_loopw [4, 6] (fun ss ii wr => ∃ k : Nat, k ≤ n ∧ ii = .int .i64 k ∧ ∃ (s : ByteArray) (i : Nat) (h : Int), ss = .string s ∧ s.size ≤ 2 * k ∧ CurAt wr 46 w.heap.size a len cap zs i h ∧ w1.grownBy wr (some w.heap.size) ∧ Hid (pieced (oneOf lineParts) 5 len zs (gNext len 0) (lcg h0) k = (s, i, h))) (fun _ ii _ => n - (intOf ii).toNat)
  case atStart => exact ⟨0, Nat.zero_le _, rfl, _, _, _, rfl, by decide, C2.out, g2, rfl⟩
  case round =>
    obtain ⟨k, hk, rfl, s, i, h, rfl, hs, c, g, HP⟩ := hrel
    have CC := Lib.hid c
    clear c
    by_cases hlt : k < n
    · have i1 : (k : Int) < (n : Int) := by omega
      have HS : pieced (oneOf lineParts) 5 len zs (gNext len 0) (lcg h0) (k + 1) = (s ++ oneOf lineParts (gBelow len zs i h 5).toNat, gNext len i, lcg h) := by
        rw [pieced, HP.out]; rfl
      have HS := Lib.hid HS
      have hol := oneOf_len lineParts (by decide) (gBelow len zs i h 5).toNat
      go_wp2_with fail
      refine (l01Pick_fix (oneOf lineParts) _ _ _ _ _ _ _ _ wr.heap.size 5 5 _ (CC.out.kept (World.grownBy_alloc wr _ none) (by simp) (fun _ _ => Or.inl (by simp))) (by omega) (by omega) (by simp) (by have := CC.out.lt; omega) (fun j hj => oneOf_cell wr lineParts 9 j hj)).mono ?_
      rintro e w3 ⟨rfl, c3, g3⟩
      have C3 := Lib.hid c3
      clear c3
      generalize oneOf lineParts (gBelow len zs i h ((5 : Nat) : Int)).toNat = x at *
      go_wp2_with fail
      go_roundw
      case rel => exact ⟨k + 1, by omega, by go_num, _, _, _, rfl, by rw [ByteArray.size_append]; omega, C3.out, (g.trans ((World.grownBy_alloc wr _ none).but _)).trans g3, HS.out⟩
      case measure => simp [intOf]; omega
    · obtain rfl : k = n := by omega
      go_wp2_with fail
      go_ret
      exact ⟨by rw [HP.out]; rfl, below_new g0 g⟩
end Go.Proofs.Ytibimjbnhgehoaa
