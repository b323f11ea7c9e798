/-
  Plain mathematics of a trail: a record's blocks, the record that blocks begin with, and the records of a region. No condition but those that the theorems state.
-/
import Derived.Test.YtpmhgfjnabgilaaDoorNextPlain
import Derived.Test.YtpmhgfjnabgilaaDoorDev
namespace Go.Proofs.YtpmhgfjnabgilaaDoor.Tr
open Wp Sp

/-- The blocks of a frame. -/
def cutL (f : List UInt8) : List (List UInt8) :=
  if _h : 63 < f.length then (f.take 63 ++ [1]) :: cutL (f.drop 63) else [f ++ List.replicate (63 - f.length) 0 ++ [2]]
termination_by f.length
decreasing_by simp only [List.length_drop]; omega
theorem cutL_more (f : List UInt8) (h : 63 < f.length) : cutL f = (f.take 63 ++ [1]) :: cutL (f.drop 63) := by
  rw [cutL, dif_pos h]
theorem cutL_last (f : List UInt8) (h : ¬ 63 < f.length) : cutL f = [f ++ List.replicate (63 - f.length) 0 ++ [2]] := by
  rw [cutL, dif_neg h]
theorem cutL_ind {P : List UInt8 → Prop} (h1 : ∀ f, ¬ 63 < f.length → P f) (h2 : ∀ f, 63 < f.length → P (f.drop 63) → P f) (f : List UInt8) : P f := by
  obtain ⟨n, hn⟩ : ∃ n, f.length = n := ⟨_, rfl⟩
  induction n using Nat.strongRecOn generalizing f with
  | _ n ih =>
    by_cases h : 63 < f.length
    · exact h2 f h (ih (f.drop 63).length (by rw [List.length_drop]; omega) _ rfl)
    · exact h1 f h
theorem cutL_length (f : List UInt8) : (cutL f).length = (f.length - 1) / 63 + 1 := by
  induction f using cutL_ind with
  | h1 f h => rw [cutL_last f h, List.length_singleton]; omega
  | h2 f h ih => rw [cutL_more f h, List.length_cons, ih, List.length_drop]; omega
/-- All blocks of a frame but the last go on, and have 64 bytes. -/
theorem cutL_shape (f : List UInt8) : ∃ i l, cutL f = i ++ [l ++ [2]] ∧ l.length = 63 ∧ ∀ x ∈ i, ∃ y, x = y ++ [1] ∧ y.length = 63 := by
  induction f using cutL_ind with
  | h1 f h => exact ⟨[], f ++ List.replicate (63 - f.length) 0, cutL_last f h, by simp; omega, by simp⟩
  | h2 f h ih =>
    obtain ⟨i, l, e, h1, h2⟩ := ih
    refine ⟨(f.take 63 ++ [1]) :: i, l, by rw [cutL_more f h, e]; rfl, h1, ?_⟩
    intro x hx
    rcases List.mem_cons.1 hx with rfl | hx
    · exact ⟨_, rfl, by simp; omega⟩
    · exact h2 x hx
theorem cutL_pieces (f : List UInt8) : ∃ k, ((cutL f).map (fun x => x.take 63)).flatten = f ++ List.replicate k 0 := by
  induction f using cutL_ind with
  | h1 f h =>
    refine ⟨63 - f.length, ?_⟩
    rw [cutL_last f h]
    simp only [List.map_cons, List.map_nil, List.flatten_cons, List.flatten_nil, List.append_nil]
    exact List.take_left' (by simp; omega)
  | h2 f h ih =>
    obtain ⟨k, hk⟩ := ih
    refine ⟨k, ?_⟩
    rw [cutL_more f h, List.map_cons, List.flatten_cons, hk, List.take_left' (by simp; omega), ← List.append_assoc, List.take_append_drop]

/-- The blocks of a record. -/
def cutB (r : List UInt8) : List ByteArray := (cutL (frameB r)).map B
def ends (b : ByteArray) : Bool := b.data.toList.drop 63 == [2]
def isPiece (b : ByteArray) : Prop := b.size = 64 ∧ (b.data.toList.drop 63 = [1] ∨ b.data.toList.drop 63 = [2])
/-- A record's blocks: all but the last go on, the last ends. -/
theorem cutB_shape (r : List UInt8) : ∃ i l, cutB r = i ++ [l] ∧ ends l = true ∧ (∀ x ∈ i, ends x = false) ∧ ∀ x ∈ cutB r, isPiece x := by
  obtain ⟨i, l, e, h1, h2⟩ := cutL_shape (frameB r)
  have d63 : ∀ (y : List UInt8) (b : UInt8), y.length = 63 → (y ++ [b]).drop 63 = [b] := fun y b h => List.drop_left' h
  refine ⟨i.map B, B (l ++ [2]), by unfold cutB; rw [e]; simp, ?_, ?_, ?_⟩
  · unfold ends; rw [B_data, d63 _ _ h1]; rfl
  · intro x hx
    obtain ⟨z, hz, rfl⟩ := List.mem_map.1 hx
    obtain ⟨y, rfl, hy⟩ := h2 z hz
    unfold ends; rw [B_data, d63 _ _ hy]; rfl
  · intro x hx
    unfold cutB at hx
    rw [e] at hx
    obtain ⟨z, hz, rfl⟩ := List.mem_map.1 hx
    rcases List.mem_append.1 hz with hz | hz
    · obtain ⟨y, rfl, hy⟩ := h2 z hz
      exact ⟨by rw [B_size]; simp [hy], Or.inl (by rw [B_data, d63 _ _ hy])⟩
    · rw [List.mem_singleton] at hz
      subst hz
      exact ⟨by rw [B_size]; simp [h1], Or.inr (by rw [B_data, d63 _ _ h1])⟩
theorem cutB_len (r : List UInt8) : (cutB r).length = ((frameB r).length - 1) / 63 + 1 := by
  unfold cutB; rw [List.length_map, cutL_length]
theorem cutB_pos (r : List UInt8) : 0 < (cutB r).length := by rw [cutB_len]; omega
theorem cutB_size (r : List UInt8) : ∀ x ∈ cutB r, x.size = 64 := by
  obtain ⟨_, _, _, _, _, h⟩ := cutB_shape r
  exact fun x hx => (h x hx).1

/-- How many blocks there are up to the first that ends, or none. -/
def manyOf (bl : List ByteArray) : Nat := if bl.findIdx ends < bl.length then bl.findIdx ends + 1 else 0
def pcs (bl : List ByteArray) : List UInt8 := (bl.map (fun b => b.data.toList.take 63)).flatten
/-- The record that blocks begin with, and how many it has. -/
def first (bl : List ByteArray) : List UInt8 × Nat :=
  if (nextR (pcs (bl.take (manyOf bl)))).2.2 ≠ 0 then ([], 0)
  else if cutB (nextR (pcs (bl.take (manyOf bl)))).1 = bl.take (manyOf bl) then ((nextR (pcs (bl.take (manyOf bl)))).1, manyOf bl) else ([], 0)
theorem manyOf_le (bl : List ByteArray) : manyOf bl ≤ bl.length := by unfold manyOf; split <;> omega
theorem findIdx_ends (i : List ByteArray) (l : ByteArray) (rest : List ByteArray) (hl : ends l = true) (hi : ∀ x ∈ i, ends x = false) : (i ++ [l] ++ rest).findIdx ends = i.length := by
  induction i with
  | nil => simp [List.findIdx_cons, hl]
  | cons x i ih =>
    have := hi x (by simp)
    rw [List.cons_append, List.cons_append, List.findIdx_cons, this]
    simp only [cond_false, List.length_cons]
    rw [ih (fun y hy => hi y (by simp [hy]))]
theorem manyOf_put (r : List UInt8) (rest : List ByteArray) : manyOf (cutB r ++ rest) = (cutB r).length := by
  obtain ⟨i, l, e, h1, h2, _⟩ := cutB_shape r
  unfold manyOf
  rw [e, findIdx_ends i l rest h1 h2]
  rw [if_pos (by simp)]
  simp
theorem pcs_cut (r : List UInt8) : ∃ k, pcs (cutB r) = frameB r ++ List.replicate k 0 := by
  obtain ⟨k, hk⟩ := cutL_pieces (frameB r)
  refine ⟨k, ?_⟩
  rw [← hk]
  unfold pcs cutB
  rw [List.map_map]
  rfl
theorem first_put (r : List UInt8) (rest : List ByteArray) (h : r.length ≤ 32768) : first (cutB r ++ rest) = (r, (cutB r).length) := by
  have e1 : (cutB r ++ rest).take (manyOf (cutB r ++ rest)) = cutB r := by rw [manyOf_put, List.take_left' rfl]
  obtain ⟨k, hk⟩ := pcs_cut r
  have e2 : nextR (pcs ((cutB r ++ rest).take (manyOf (cutB r ++ rest)))) = (r, List.replicate k 0, 0) := by
    rw [e1, hk, nextR_put _ _ h]
  unfold first
  rw [e2, if_neg (by simp), e1, if_pos rfl, manyOf_put]
theorem first_ok (bl : List ByteArray) (h : (first bl).2 ≠ 0) : bl = cutB (first bl).1 ++ bl.drop (first bl).2 ∧ (first bl).2 = (cutB (first bl).1).length ∧ (first bl).1.length ≤ 32768 ∧ (first bl).2 ≤ bl.length := by
  unfold first at h ⊢
  by_cases c1 : (nextR (pcs (bl.take (manyOf bl)))).2.2 ≠ 0
  · rw [if_pos c1] at h; exact absurd rfl h
  · rw [if_neg c1] at h ⊢
    by_cases c2 : cutB (nextR (pcs (bl.take (manyOf bl)))).1 = bl.take (manyOf bl)
    · rw [if_pos c2] at h ⊢
      simp only [] at h ⊢
      refine ⟨?_, ?_, ?_, manyOf_le bl⟩
      · rw [c2, List.take_append_drop]
      · rw [c2, List.length_take]; have := manyOf_le bl; omega
      · rcases hx : nextR (pcs (bl.take (manyOf bl))) with ⟨t, q, e⟩
        rw [hx] at c1
        simp only [ne_eq, Decidable.not_not] at c1
        subst c1
        exact (nextR_ok _ _ _ hx).2
    · rw [if_neg c2] at h; exact absurd rfl h
theorem first_zero (bl : List ByteArray) (h : (first bl).2 = 0) : first bl = ([], 0) := by
  unfold first at h ⊢
  by_cases c1 : (nextR (pcs (bl.take (manyOf bl)))).2.2 ≠ 0
  · rw [if_pos c1]
  · rw [if_neg c1] at h ⊢
    by_cases c2 : cutB (nextR (pcs (bl.take (manyOf bl)))).1 = bl.take (manyOf bl)
    · rw [if_pos c2] at h
      have h2 := cutB_pos (nextR (pcs (bl.take (manyOf bl)))).1
      simp only [] at h
      rw [c2, h] at h2
      simp at h2
    · rw [if_neg c2]

/-- The blocks of records, one behind the other. -/
def allB (l : List ByteArray) : List ByteArray := (l.map (fun t => cutB t.data.toList)).flatten
theorem allB_cons (t : ByteArray) (l : List ByteArray) : allB (t :: l) = cutB t.data.toList ++ allB l := rfl
theorem allB_append (a b : List ByteArray) : allB (a ++ b) = allB a ++ allB b := by simp [allB]
theorem allB_size (l : List ByteArray) : ∀ x ∈ allB l, x.size = 64 := by
  intro x hx
  unfold allB at hx
  obtain ⟨y, hy, hx⟩ := List.mem_flatten.1 hx
  obtain ⟨t, _, rfl⟩ := List.mem_map.1 hy
  exact cutB_size _ x hx
/-- The records of blocks, and how many blocks they have. -/
structure Recs (bl l : List ByteArray) (u : Nat) : Prop where
  small : ∀ t ∈ l, t.size ≤ 32768
  blocks : bl.take u = allB l
  le : u ≤ bl.length
  none : (first (bl.drop u)).2 = 0
theorem Recs.len {bl l : List ByteArray} {u : Nat} (h : Recs bl l u) : (allB l).length = u := by
  rw [← h.blocks, List.length_take]; have := h.le; omega
theorem Recs.eq {bl l : List ByteArray} {u : Nat} (h : Recs bl l u) : bl = allB l ++ bl.drop u := by
  rw [← h.blocks, List.take_append_drop]
theorem Recs.of_none {bl : List ByteArray} (h : (first bl).2 = 0) {m : List ByteArray} {k : Nat} (hr : Recs bl m k) : m = [] ∧ k = 0 := by
  cases m with
  | nil => exact ⟨rfl, by have := hr.len; simpa [allB] using this.symm⟩
  | cons t m =>
    exfalso
    have e := hr.eq
    rw [allB_cons, List.append_assoc] at e
    rw [e, first_put _ _ (by rw [← size_len]; exact hr.small t (by simp))] at h
    have := cutB_pos t.data.toList
    simp only [] at h
    omega
theorem Recs.pre {l : List ByteArray} (hs : ∀ t ∈ l, t.size ≤ 32768) {rest m : List ByteArray} {k : Nat} (h : Recs (allB l ++ rest) m k) :
    ∃ m' k', m = l ++ m' ∧ k = (allB l).length + k' ∧ Recs rest m' k' := by
  induction l generalizing m k with
  | nil => exact ⟨m, k, rfl, by simp [allB], h⟩
  | cons t l ih =>
    rw [allB_cons, List.append_assoc] at h
    have hf := first_put t.data.toList (allB l ++ rest) (by rw [← size_len]; exact hs t (by simp))
    have hp := cutB_pos t.data.toList
    cases m with
    | nil =>
      have hk : k = 0 := by have := h.len; simpa [allB] using this.symm
      subst hk
      have := h.none
      rw [List.drop_zero, hf] at this
      simp only [] at this
      omega
    | cons t2 m =>
      have e := h.eq
      rw [allB_cons, List.append_assoc] at e
      have hf2 := first_put t2.data.toList (allB m ++ (cutB t.data.toList ++ (allB l ++ rest)).drop k) (by rw [← size_len]; exact h.small t2 (by simp))
      rw [← e, hf] at hf2
      simp only [Prod.mk.injEq] at hf2
      have ht : t = t2 := by rw [← B_of t, ← B_of t2, hf2.1]
      subst ht
      have hlen := h.len
      rw [allB_cons, List.length_append] at hlen
      have h3 : Recs (allB l ++ rest) m (k - (cutB t.data.toList).length) := by
        refine ⟨fun x hx => h.small x (by simp [hx]), ?_, ?_, ?_⟩
        · have := h.blocks
          rw [allB_cons, List.take_append, List.take_of_length_le (by omega)] at this
          exact List.append_cancel_left this
        · have := h.le
          rw [List.length_append] at this
          omega
        · have := h.none
          rw [List.drop_append, List.drop_of_length_le (by omega), List.nil_append] at this
          exact this
      obtain ⟨m', k', rfl, hk, h4⟩ := ih (fun x hx => hs x (by simp [hx])) h3
      exact ⟨m', k', rfl, by rw [allB_cons, List.length_append]; omega, h4⟩
theorem Recs.uniq {bl l l' : List ByteArray} {u u' : Nat} (h : Recs bl l u) (h' : Recs bl l' u') : l' = l ∧ u' = u := by
  have e := h.eq
  rw [e] at h'
  obtain ⟨m', k', rfl, hk, h2⟩ := Recs.pre h.small h'
  obtain ⟨rfl, rfl⟩ := Recs.of_none h.none h2
  exact ⟨by simp, by have := h.len; omega⟩
theorem Recs.mk2 {l rest : List ByteArray} (hs : ∀ t ∈ l, t.size ≤ 32768) (h : (first rest).2 = 0) : Recs (allB l ++ rest) l (allB l).length :=
  ⟨hs, List.take_left' rfl, by simp, by rw [List.drop_left' rfl]; exact h⟩
/-- Blocks of which none ends begin with no record. -/
theorem first_noend (bl : List ByteArray) (h : ∀ x ∈ bl, ends x = false) : (first bl).2 = 0 := by
  have hm : manyOf bl = 0 := by
    unfold manyOf
    rw [if_neg]
    intro c
    have := List.findIdx_getElem (p := ends) (xs := bl) (w := c)
    rw [h _ (List.getElem_mem _)] at this
    cases this
  cases hc : (first bl).2 with
  | zero => rfl
  | succ n =>
    have := (first_ok bl (by omega)).1
    exfalso
    obtain ⟨i, l, e, h1, _⟩ := cutB_shape (first bl).1
    have hl : l ∈ bl := by rw [this, e]; simp
    rw [h l hl] at h1
    cases h1
end Go.Proofs.YtpmhgfjnabgilaaDoor.Tr
