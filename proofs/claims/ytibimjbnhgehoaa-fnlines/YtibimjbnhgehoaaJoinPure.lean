/- Plain mathematics: lines with line ends between are the text; words with blanks behind are those words. -/
import Derived.Test.YtibimjbnhgehoaaSpecWords
namespace Go.Proofs.Ytibimjbnhgehoaa
open Go.RowKit
set_option linter.unusedVariables false

/-- Texts with line ends between them, as far as k. -/
def joined (xs : List ByteArray) : Nat → ByteArray
  | 0 => ⟨#[]⟩
  | k + 1 => (if k = 0 then joined xs k else joined xs k ++ ⟨#[10]⟩) ++ xs.getD k ⟨#[]⟩
/-- Texts with a blank behind each, as far as k. -/
def spaced (xs : List ByteArray) : Nat → ByteArray
  | 0 => ⟨#[]⟩
  | k + 1 => (spaced xs k ++ xs.getD k ⟨#[]⟩) ++ ⟨#[32]⟩

def glue : List (List UInt8) → List UInt8
  | [] => []
  | [x] => x
  | x :: y :: r => x ++ 10 :: glue (y :: r)

theorem glue_snoc : ∀ (l : List (List UInt8)) (x : List UInt8), l ≠ [] → glue (l ++ [x]) = glue l ++ 10 :: x
  | [], x, h => absurd rfl h
  | [y], x, _ => rfl
  | y :: z :: r, x, _ => by
    show y ++ 10 :: glue ((z :: r) ++ [x]) = (y ++ 10 :: glue (z :: r)) ++ 10 :: x
    rw [glue_snoc (z :: r) x (by simp)]
    simp

theorem take_succ_getD (xs : List ByteArray) (k : Nat) (h : k < xs.length) : xs.take (k + 1) = xs.take k ++ [xs.getD k ⟨#[]⟩] := by
  rw [List.take_add_one, List.getD_eq_getElem?_getD, List.getElem?_eq_getElem h]; rfl

theorem joined_glue (xs : List ByteArray) : ∀ k, k ≤ xs.length → (joined xs k).data.toList = glue ((xs.take k).map (fun x => x.data.toList))
  | 0, _ => rfl
  | k + 1, h => by
    have ih := joined_glue xs k (by omega)
    rw [take_succ_getD xs k (by omega), List.map_append, joined]
    by_cases h0 : k = 0
    · subst h0
      rw [if_pos rfl, ByteArray.data_append, Array.toList_append, ih]
      simp [glue]
    · rw [if_neg h0, ByteArray.data_append, Array.toList_append, ByteArray.data_append, Array.toList_append, ih, List.map_singleton, glue_snoc _ _ (by simp; exact ⟨h0, fun e => by subst e; simp at h⟩)]
      simp

theorem partsOf_some (m : UInt8 → Bool) : ∀ (cs cur : List UInt8), ∃ x r, partsOf m cur cs = x :: r
  | [], cur => ⟨_, _, rfl⟩
  | c :: cs, cur => by
    unfold partsOf
    split
    · exact ⟨_, _, rfl⟩
    · exact partsOf_some m cs _

theorem glue_parts {m : UInt8 → Bool} (hm : ∀ c, m c = true → c = 10) : ∀ (cs cur : List UInt8), glue (partsOf m cur cs) = cur ++ cs
  | [], cur => by simp [partsOf, glue]
  | c :: cs, cur => by
    unfold partsOf
    split
    · rename_i h
      have := hm c h
      subst this
      have ih := glue_parts hm cs []
      obtain ⟨x, r, e⟩ := partsOf_some m cs []
      rw [e] at ih ⊢
      rw [glue, ih]
      simp
    · rw [glue_parts hm cs _]; simp

theorem map_text (l : List (List UInt8)) : (l.map text).map (fun x => x.data.toList) = l := by
  rw [List.map_map]
  conv => rhs; rw [← List.map_id l]
  rfl

theorem lines_join (s : ByteArray) : joined (linesOf s) (linesOf s).length = s := by
  apply bytes_ext
  rw [joined_glue _ _ (Nat.le_refl _), List.take_length]
  unfold linesOf
  split
  · rename_i h
    have : s.data.toList = [] := by rw [← ByteArray.toList_eq]; exact h
    rw [this]; rfl
  · unfold left
    rw [map_text, glue_parts (fun c h => by rw [mark10] at h; exact UInt8.toNat_inj.1 (by simp at h ⊢; omega))]
    simp

/-- No byte of it is a mark. -/
def Plain (m : UInt8 → Bool) (l : List UInt8) : Prop := ∀ c ∈ l, m c = false

theorem parts_plain (m : UInt8 → Bool) : ∀ (cs cur : List UInt8), Plain m cur → ∀ x ∈ partsOf m cur cs, Plain m x
  | [], cur, h, x, hx => by simp [partsOf] at hx; subst hx; exact h
  | c :: cs, cur, h, x, hx => by
    unfold partsOf at hx
    split at hx
    · rcases List.mem_cons.1 hx with rfl | hx
      · exact h
      · exact parts_plain m cs [] (fun _ h => by cases h) x hx
    · rename_i hc
      refine parts_plain m cs (cur ++ [c]) (fun d hd => ?_) x hx
      rcases List.mem_append.1 hd with hd | hd
      · exact h d hd
      · simp at hd; subst hd; simpa using hc

theorem parts_short (m : UInt8 → Bool) : ∀ (cs cur : List UInt8), ∀ x ∈ partsOf m cur cs, x.length ≤ cur.length + cs.length
  | [], cur, x, hx => by simp [partsOf] at hx; subst hx; simp
  | c :: cs, cur, x, hx => by
    unfold partsOf at hx
    split at hx
    · rcases List.mem_cons.1 hx with rfl | hx
      · simp
      · have := parts_short m cs [] x hx
        simp at this ⊢; omega
    · have := parts_short m cs (cur ++ [c]) x hx
      simp at this ⊢; omega

theorem parts_run (m : UInt8 → Bool) : ∀ (l cur rest : List UInt8), Plain m l → partsOf m cur (l ++ rest) = partsOf m (cur ++ l) rest
  | [], cur, rest, _ => by simp
  | c :: l, cur, rest, h => by
    rw [List.cons_append, partsOf, if_neg (by rw [h c (by simp)]; simp), parts_run m l _ rest (fun d hd => h d (by simp [hd]))]
    simp

theorem parts_spaced (m : UInt8 → Bool) (h32 : m 32 = true) : ∀ (ls : List (List UInt8)), (∀ l ∈ ls, Plain m l) → partsOf m [] (ls.flatMap (fun l => l ++ [32])) = ls ++ [[]]
  | [], _ => rfl
  | l :: ls, h => by
    rw [List.flatMap_cons, List.append_assoc, parts_run m l [] _ (h l (by simp)), List.singleton_append, partsOf, if_pos h32, parts_spaced m h32 ls (fun x hx => h x (by simp [hx]))]
    simp

theorem spaced_flat (xs : List ByteArray) : ∀ k, k ≤ xs.length → (spaced xs k).data.toList = ((xs.take k).map (fun x => x.data.toList)).flatMap (fun l => l ++ [32])
  | 0, _ => rfl
  | k + 1, h => by
    have ih := spaced_flat xs k (by omega)
    rw [take_succ_getD xs k (by omega), spaced, ByteArray.data_append, Array.toList_append, ByteArray.data_append, Array.toList_append, ih]
    simp

theorem spaced_len (xs : List ByteArray) (b : Nat) (h : ∀ x ∈ xs, x.size ≤ b) : ∀ k, (spaced xs k).size ≤ k * (b + 1)
  | 0 => by rw [Nat.zero_mul]; exact Nat.le_refl 0
  | k + 1 => by
    have ih := spaced_len xs b h k
    have hx : (xs.getD k ⟨#[]⟩).size ≤ b := by
      rw [List.getD_eq_getElem?_getD]
      cases e : xs[k]? with
      | none => exact Nat.zero_le _
      | some x => exact h x (List.mem_of_getElem? e)
    have h1 : (⟨#[32]⟩ : ByteArray).size = 1 := rfl
    rw [spaced, ByteArray.size_append, ByteArray.size_append, Nat.add_mul]
    omega

theorem getD_len (xs : List ByteArray) (b : Nat) (h : ∀ x ∈ xs, x.size ≤ b) (k : Nat) : (xs.getD k ⟨#[]⟩).size ≤ b := by
  rw [List.getD_eq_getElem?_getD]
  cases e : xs[k]? with
  | none => exact Nat.zero_le _
  | some x => exact h x (List.mem_of_getElem? e)

theorem joined_len (xs : List ByteArray) (b : Nat) (h : ∀ x ∈ xs, x.size ≤ b) : ∀ k, (joined xs k).size ≤ k * (b + 1)
  | 0 => by rw [Nat.zero_mul]; exact Nat.le_refl 0
  | k + 1 => by
    have ih := joined_len xs b h k
    have hx := getD_len xs b h k
    have h1 : (⟨#[10]⟩ : ByteArray).size = 1 := rfl
    rw [joined, Nat.add_mul]
    split
    · rw [ByteArray.size_append]; omega
    · rw [ByteArray.size_append, ByteArray.size_append]; omega

theorem linesOf_mem {s x : ByteArray} (h : x ∈ linesOf s) : x.size ≤ s.size := by
  unfold linesOf at h
  split at h
  · cases h
  · unfold left at h
    obtain ⟨l, hl, rfl⟩ := List.mem_map.1 h
    have := parts_short _ _ _ l hl
    rw [List.drop_zero, List.take_zero, List.drop_zero, List.length_nil, Nat.zero_add] at this
    show l.toArray.size ≤ s.data.size
    rw [List.size_toArray, ← Array.length_toList]
    exact this

theorem wordsIn_mem {s x : ByteArray} (h : x ∈ wordsIn s) : full x = true ∧ Plain (marked blanks) x.data.toList ∧ x.size ≤ s.size := by
  unfold wordsIn left at h
  obtain ⟨h1, h2⟩ := List.mem_filter.1 h
  obtain ⟨l, hl, rfl⟩ := List.mem_map.1 h1
  refine ⟨h2, parts_plain _ _ _ (fun c hc => by simp at hc) l hl, ?_⟩
  have := parts_short _ _ _ l hl
  rw [List.drop_zero, List.take_zero, List.drop_zero, List.length_nil, Nat.zero_add] at this
  show l.toArray.size ≤ s.data.size
  rw [List.size_toArray, ← Array.length_toList]
  exact this

theorem words_back (t : ByteArray) : wordsIn (spaced (wordsIn t) (wordsIn t).length) = wordsIn t := by
  obtain ⟨ws, hws⟩ : ∃ ws, wordsIn t = ws := ⟨_, rfl⟩
  have hm : ∀ x ∈ ws, full x = true ∧ Plain (marked blanks) x.data.toList := fun x hx => by rw [← hws] at hx; exact ⟨(wordsIn_mem hx).1, (wordsIn_mem hx).2.1⟩
  rw [hws]
  unfold wordsIn left
  rw [spaced_flat ws _ (Nat.le_refl _), List.take_length]
  simp only [List.take_zero, List.drop_zero, List.drop_nil]
  rw [parts_spaced _ (by rw [mark32]; rfl) _ (fun l hl => by obtain ⟨x, hx, rfl⟩ := List.mem_map.1 hl; exact (hm x hx).2)]
  rw [List.map_append, List.filter_append, List.map_map]
  have e1 : ws.map (text ∘ fun x => x.data.toList) = ws := by
    conv => rhs; rw [← List.map_id ws]
    rfl
  rw [e1, List.filter_eq_self.2 (fun x hx => (hm x hx).1)]
  simp [full, text]
end Go.Proofs.Ytibimjbnhgehoaa
