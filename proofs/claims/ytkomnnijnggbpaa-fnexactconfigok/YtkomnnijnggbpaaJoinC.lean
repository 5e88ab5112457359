/- Lists of cells that are joined: both in order, of two alike the first one's. -/
import Derived.Test.YtkomnnijnggbpaaCellA
namespace Go.Proofs.Ytkomnnijnggbpaa
open Go.RowKit
set_option linter.unusedVariables false

/-- Two rising lists in one. -/
def mergeC : List Cel → List Cel → List Cel
  | [], ys => ys
  | x :: xs, [] => x :: xs
  | x :: xs, y :: ys => if celBefore x y = true then x :: mergeC xs (y :: ys) else if celBefore y x = true then y :: mergeC (x :: xs) ys else x :: mergeC xs ys
termination_by xs ys => xs.length + ys.length
def join (xs ys : List Cel) : List Cel := if cellsOk xs = true ∧ cellsOk ys = true then mergeC xs ys else []

theorem merge_nil (ys : List Cel) : mergeC [] ys = ys := by rw [mergeC]
theorem merge_end (xs : List Cel) : mergeC xs [] = xs := by cases xs <;> rw [mergeC]
theorem merge_first {x y : Cel} (xs ys : List Cel) (h : celBefore x y = true) : mergeC (x :: xs) (y :: ys) = x :: mergeC xs (y :: ys) := by rw [mergeC, if_pos h]
theorem merge_second {x y : Cel} (xs ys : List Cel) (h : celBefore x y = false) (h2 : celBefore y x = true) : mergeC (x :: xs) (y :: ys) = y :: mergeC (x :: xs) ys := by rw [mergeC, if_neg (by simp [h]), if_pos h2]
theorem merge_both {x y : Cel} (xs ys : List Cel) (h : celBefore x y = false) (h2 : celBefore y x = false) : mergeC (x :: xs) (y :: ys) = x :: mergeC xs ys := by rw [mergeC, if_neg (by simp [h]), if_neg (by simp [h2])]

/-- A right list: right cells whose keys rise. -/
theorem cellsOk_iff (xs : List Cel) : cellsOk xs = true ↔ (∀ x ∈ xs, cellOk x = true) ∧ xs.Pairwise (fun x y => Op.bytesLess (celKey x) (celKey y) = true) := by
  constructor
  · intro h
    refine ⟨fun x hx => ?_, List.pairwise_iff_getElem.2 (fun i j hi hj hij => ?_)⟩
    · obtain ⟨j, hj⟩ := List.mem_iff_getElem?.1 hx
      exact cells_ok h hj
    · have := cells_rise h (i := i) (x := xs[i]) (List.getElem?_eq_getElem hi) (j - i - 1) (y := xs[j]) (by rw [show i + (j - i - 1) + 1 = j by omega]; exact List.getElem?_eq_getElem hj)
      exact this
  · rintro ⟨h1, h2⟩
    refine cellsOk_yes (fun j hj => ?_)
    have hx : xs[j]? = some xs[j] := List.getElem?_eq_getElem hj
    cases j with
    | zero => rw [okAt_zero hx]; exact h1 _ (List.getElem_mem hj)
    | succ j =>
      have hy : xs[j]? = some (xs[j]'(by omega)) := List.getElem?_eq_getElem (by omega)
      rw [okAt_succ hx hy, h1 _ (List.getElem_mem hj), before_key (h1 _ (List.getElem_mem (by omega))) (h1 _ (List.getElem_mem hj)), ← ahead_less]
      exact List.pairwise_iff_getElem.1 h2 j (j + 1) (by omega) hj (by omega)
theorem key_three {x y : Cel} (hx : cellOk x = true) (hy : cellOk y = true) (h : celBefore x y = false) (h2 : celBefore y x = false) : celKey x = celKey y := by
  rw [before_key hx hy, ← ahead_less] at h
  rw [before_key hy hx, ← ahead_less] at h2
  by_cases e : celKey x = celKey y
  · exact e
  · rw [less_total _ _ e h] at h2
    cases h2
theorem merge_mem : ∀ (xs ys : List Cel) (z : Cel), z ∈ mergeC xs ys → z ∈ xs ∨ z ∈ ys
  | [], ys, z, h => by rw [merge_nil] at h; exact .inr h
  | x :: xs, [], z, h => by rw [merge_end] at h; exact .inl h
  | x :: xs, y :: ys, z, h => by
    cases h1 : celBefore x y with
    | true =>
      rw [merge_first xs ys h1] at h
      rcases List.mem_cons.1 h with rfl | h
      · exact .inl (by simp)
      · rcases merge_mem xs (y :: ys) z h with h | h
        · exact .inl (by simp [h])
        · exact .inr h
    | false =>
      cases h2 : celBefore y x with
      | true =>
        rw [merge_second xs ys h1 h2] at h
        rcases List.mem_cons.1 h with rfl | h
        · exact .inr (by simp)
        · rcases merge_mem (x :: xs) ys z h with h | h
          · exact .inl h
          · exact .inr (by simp [h])
      | false =>
        rw [merge_both xs ys h1 h2] at h
        rcases List.mem_cons.1 h with rfl | h
        · exact .inl (by simp)
        · rcases merge_mem xs ys z h with h | h
          · exact .inl (by simp [h])
          · exact .inr (by simp [h])
termination_by xs ys => xs.length + ys.length
theorem merge_len : ∀ (xs ys : List Cel), (mergeC xs ys).length ≤ xs.length + ys.length
  | [], ys => by rw [merge_nil]; simp
  | x :: xs, [] => by rw [merge_end]; simp
  | x :: xs, y :: ys => by
    cases h1 : celBefore x y with
    | true =>
      rw [merge_first xs ys h1]
      have := merge_len xs (y :: ys)
      simp only [List.length_cons] at this ⊢
      omega
    | false =>
      cases h2 : celBefore y x with
      | true =>
        rw [merge_second xs ys h1 h2]
        have := merge_len (x :: xs) ys
        simp only [List.length_cons] at this ⊢
        omega
      | false =>
        rw [merge_both xs ys h1 h2]
        have := merge_len xs ys
        simp only [List.length_cons] at this ⊢
        omega
termination_by xs ys => xs.length + ys.length
theorem before_less {x y : Cel} (hx : cellOk x = true) (hy : cellOk y = true) (h : celBefore x y = true) : Op.bytesLess (celKey x) (celKey y) = true := by
  rw [before_key hx hy, ← ahead_less] at h
  exact h
theorem merge_rise : ∀ (xs ys : List Cel), (∀ x ∈ xs, cellOk x = true) → (∀ y ∈ ys, cellOk y = true) → xs.Pairwise (fun x y => Op.bytesLess (celKey x) (celKey y) = true) → ys.Pairwise (fun x y => Op.bytesLess (celKey x) (celKey y) = true) → (mergeC xs ys).Pairwise (fun x y => Op.bytesLess (celKey x) (celKey y) = true)
  | [], ys, _, _, _, h => by rw [merge_nil]; exact h
  | x :: xs, [], _, _, h, _ => by rw [merge_end]; exact h
  | x :: xs, y :: ys, hx, hy, px, py => by
    have ox : cellOk x = true := hx x (by simp)
    have oy : cellOk y = true := hy y (by simp)
    obtain ⟨p1, p2⟩ := List.pairwise_cons.1 px
    obtain ⟨q1, q2⟩ := List.pairwise_cons.1 py
    have hx' : ∀ z ∈ xs, cellOk z = true := fun z hz => hx z (by simp [hz])
    have hy' : ∀ z ∈ ys, cellOk z = true := fun z hz => hy z (by simp [hz])
    cases h1 : celBefore x y with
    | true =>
      have k := before_less ox oy h1
      rw [merge_first xs ys h1]
      refine List.pairwise_cons.2 ⟨fun z hz => ?_, merge_rise xs (y :: ys) hx' hy p2 py⟩
      rcases merge_mem _ _ z hz with h | h
      · exact p1 z h
      · rcases List.mem_cons.1 h with rfl | h
        · exact k
        · exact less_trans _ _ _ k (q1 z h)
    | false =>
      cases h2 : celBefore y x with
      | true =>
        have k := before_less oy ox h2
        rw [merge_second xs ys h1 h2]
        refine List.pairwise_cons.2 ⟨fun z hz => ?_, merge_rise (x :: xs) ys hx hy' px q2⟩
        rcases merge_mem _ _ z hz with h | h
        · rcases List.mem_cons.1 h with rfl | h
          · exact k
          · exact less_trans _ _ _ k (p1 z h)
        · exact q1 z h
      | false =>
        have k := key_three ox oy h1 h2
        rw [merge_both xs ys h1 h2]
        refine List.pairwise_cons.2 ⟨fun z hz => ?_, merge_rise xs ys hx' hy' p2 q2⟩
        rcases merge_mem _ _ z hz with h | h
        · exact p1 z h
        · rw [k]; exact q1 z h
termination_by xs ys => xs.length + ys.length
theorem merge_ok {xs ys : List Cel} (hx : cellsOk xs = true) (hy : cellsOk ys = true) : cellsOk (mergeC xs ys) = true := by
  obtain ⟨a1, a2⟩ := (cellsOk_iff xs).1 hx
  obtain ⟨b1, b2⟩ := (cellsOk_iff ys).1 hy
  refine (cellsOk_iff _).2 ⟨fun z hz => ?_, merge_rise xs ys a1 b1 a2 b2⟩
  rcases merge_mem xs ys z hz with h | h
  · exact a1 z h
  · exact b1 z h
theorem join_yes {xs ys : List Cel} (hx : cellsOk xs = true) (hy : cellsOk ys = true) : join xs ys = mergeC xs ys := if_pos ⟨hx, hy⟩
theorem join_no {xs ys : List Cel} (h : cellsOk xs = false ∨ cellsOk ys = false) : join xs ys = [] := by
  unfold join
  rw [if_neg]
  rintro ⟨h1, h2⟩
  rcases h with h | h
  · rw [h] at h1; cases h1
  · rw [h] at h2; cases h2
theorem cells_one {x : Cel} (h : cellOk x = true) : cellsOk [x] = true := (cellsOk_iff _).2 ⟨fun z hz => by rw [List.mem_singleton.1 hz]; exact h, by simp⟩
theorem cells_nil : cellsOk [] = true := rfl
end Go.Proofs.Ytkomnnijnggbpaa
