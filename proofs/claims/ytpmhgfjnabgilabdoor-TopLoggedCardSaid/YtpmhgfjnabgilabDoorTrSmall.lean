/-
  Plain mathematics of a trail: a record's blocks, the record that blocks begin with, and the records of a region. No condition but those that the theorems state.
  Plain mathematics of a trail's region: what appending and wiping make of a device, and what is read of it behind that, and behind a crash. No condition but those that the theorems state.
  The walk of trail.cut: a record's blocks, in new memory, or none if it is too long. Conditions: sum's table reads as it is laid; the record takes at most 2^48 bytes.
-/
import Derived.Test.YtpmhgfjnabgilabDoorNextPlain
import Derived.Test.YtpmhgfjnabgilabDoorDev
import Derived.Test.YtpmhgfjnabgilabDoorReadPlain
import Derived.Test.YtpmhgfjnabgilabDoorSumFrame
import Derived.Test.YtpmhgfjnabgilabDoorCopied
import Derived.Test.YtpmhgfjnabgilabDoorShelf
namespace Go.Proofs.YtpmhgfjnabgilabDoor.Tr
open Wp Sp

/-- The blocks of a frame. -/
def cutL (f : List UInt8) : List (List UInt8) :=
  if _h : 63 < f.length then (f.take 63 ++ [1]) :: cutL (f.drop 63) else [f ++ List.replicate (63 - f.length) 0 ++ [2]]
termination_by f.length
decreasing_by simp only [List.length_drop]; omega
theorem cutL_more (f : List UInt8) (h : 63 < f.length) : cutL f = (f.take 63 ++ [1]) :: cutL (f.drop 63) := by
  rw [cutL, dif_pos h]
theorem cutL_last (f : List UInt8) (h : ¬ 63 < f.length) : cutL f = [f ++ List.replicate (63 - f.length) 0 ++ [2]] := by
  rw [cutL, dif_neg h]
theorem cutL_ind {P : List UInt8 → Prop} (h1 : ∀ f, ¬ 63 < f.length → P f) (h2 : ∀ f, 63 < f.length → P (f.drop 63) → P f) (f : List UInt8) : P f := by
  obtain ⟨n, hn⟩ : ∃ n, f.length = n := ⟨_, rfl⟩
  induction n using Nat.strongRecOn generalizing f with
  | _ n ih =>
    by_cases h : 63 < f.length
    · exact h2 f h (ih (f.drop 63).length (by rw [List.length_drop]; omega) _ rfl)
    · exact h1 f h
theorem cutL_length (f : List UInt8) : (cutL f).length = (f.length - 1) / 63 + 1 := by
  induction f using cutL_ind with
  | h1 f h => rw [cutL_last f h, List.length_singleton]; omega
  | h2 f h ih => rw [cutL_more f h, List.length_cons, ih, List.length_drop]; omega
/-- All blocks of a frame but the last go on, and have 64 bytes. -/
theorem cutL_shape (f : List UInt8) : ∃ i l, cutL f = i ++ [l ++ [2]] ∧ l.length = 63 ∧ ∀ x ∈ i, ∃ y, x = y ++ [1] ∧ y.length = 63 := by
  induction f using cutL_ind with
  | h1 f h => exact ⟨[], f ++ List.replicate (63 - f.length) 0, cutL_last f h, by simp; omega, by simp⟩
  | h2 f h ih =>
    obtain ⟨i, l, e, h1, h2⟩ := ih
    refine ⟨(f.take 63 ++ [1]) :: i, l, by rw [cutL_more f h, e]; rfl, h1, ?_⟩
    intro x hx
    rcases List.mem_cons.1 hx with rfl | hx
    · exact ⟨_, rfl, by simp; omega⟩
    · exact h2 x hx
theorem cutL_pieces (f : List UInt8) : ∃ k, ((cutL f).map (fun x => x.take 63)).flatten = f ++ List.replicate k 0 := by
  induction f using cutL_ind with
  | h1 f h =>
    refine ⟨63 - f.length, ?_⟩
    rw [cutL_last f h]
    simp only [List.map_cons, List.map_nil, List.flatten_cons, List.flatten_nil, List.append_nil]
    exact List.take_left' (by simp; omega)
  | h2 f h ih =>
    obtain ⟨k, hk⟩ := ih
    refine ⟨k, ?_⟩
    rw [cutL_more f h, List.map_cons, List.flatten_cons, hk, List.take_left' (by simp; omega), ← List.append_assoc, List.take_append_drop]

/-- The blocks of a record. -/
def cutB (r : List UInt8) : List ByteArray := (cutL (frameB r)).map B
def ends (b : ByteArray) : Bool := b.data.toList.drop 63 == [2]
def isPiece (b : ByteArray) : Prop := b.size = 64 ∧ (b.data.toList.drop 63 = [1] ∨ b.data.toList.drop 63 = [2])
/-- A record's blocks: all but the last go on, the last ends. -/
theorem cutB_shape (r : List UInt8) : ∃ i l, cutB r = i ++ [l] ∧ ends l = true ∧ (∀ x ∈ i, ends x = false) ∧ ∀ x ∈ cutB r, isPiece x := by
  obtain ⟨i, l, e, h1, h2⟩ := cutL_shape (frameB r)
  have d63 : ∀ (y : List UInt8) (b : UInt8), y.length = 63 → (y ++ [b]).drop 63 = [b] := fun y b h => List.drop_left' h
  refine ⟨i.map B, B (l ++ [2]), by unfold cutB; rw [e]; simp, ?_, ?_, ?_⟩
  · unfold ends; rw [B_data, d63 _ _ h1]; rfl
  · intro x hx
    obtain ⟨z, hz, rfl⟩ := List.mem_map.1 hx
    obtain ⟨y, rfl, hy⟩ := h2 z hz
    unfold ends; rw [B_data, d63 _ _ hy]; rfl
  · intro x hx
    unfold cutB at hx
    rw [e] at hx
    obtain ⟨z, hz, rfl⟩ := List.mem_map.1 hx
    rcases List.mem_append.1 hz with hz | hz
    · obtain ⟨y, rfl, hy⟩ := h2 z hz
      exact ⟨by rw [B_size]; simp [hy], Or.inl (by rw [B_data, d63 _ _ hy])⟩
    · rw [List.mem_singleton] at hz
      subst hz
      exact ⟨by rw [B_size]; simp [h1], Or.inr (by rw [B_data, d63 _ _ h1])⟩
theorem cutB_len (r : List UInt8) : (cutB r).length = ((frameB r).length - 1) / 63 + 1 := by
  unfold cutB; rw [List.length_map, cutL_length]
theorem cutB_pos (r : List UInt8) : 0 < (cutB r).length := by rw [cutB_len]; omega
theorem cutB_size (r : List UInt8) : ∀ x ∈ cutB r, x.size = 64 := by
  obtain ⟨_, _, _, _, _, h⟩ := cutB_shape r
  exact fun x hx => (h x hx).1

/-- How many blocks there are up to the first that ends, or none. -/
def manyOf (bl : List ByteArray) : Nat := if bl.findIdx ends < bl.length then bl.findIdx ends + 1 else 0
def pcs (bl : List ByteArray) : List UInt8 := (bl.map (fun b => b.data.toList.take 63)).flatten
/-- The record that blocks begin with, and how many it has. -/
def first (bl : List ByteArray) : List UInt8 × Nat :=
  if (nextR (pcs (bl.take (manyOf bl)))).2.2 ≠ 0 then ([], 0)
  else if cutB (nextR (pcs (bl.take (manyOf bl)))).1 = bl.take (manyOf bl) then ((nextR (pcs (bl.take (manyOf bl)))).1, manyOf bl) else ([], 0)
theorem manyOf_le (bl : List ByteArray) : manyOf bl ≤ bl.length := by unfold manyOf; split <;> omega
theorem findIdx_ends (i : List ByteArray) (l : ByteArray) (rest : List ByteArray) (hl : ends l = true) (hi : ∀ x ∈ i, ends x = false) : (i ++ [l] ++ rest).findIdx ends = i.length := by
  induction i with
  | nil => simp [List.findIdx_cons, hl]
  | cons x i ih =>
    have := hi x (by simp)
    rw [List.cons_append, List.cons_append, List.findIdx_cons, this]
    simp only [cond_false, List.length_cons]
    rw [ih (fun y hy => hi y (by simp [hy]))]
theorem manyOf_put (r : List UInt8) (rest : List ByteArray) : manyOf (cutB r ++ rest) = (cutB r).length := by
  obtain ⟨i, l, e, h1, h2, _⟩ := cutB_shape r
  unfold manyOf
  rw [e, findIdx_ends i l rest h1 h2]
  rw [if_pos (by simp)]
  simp
theorem pcs_cut (r : List UInt8) : ∃ k, pcs (cutB r) = frameB r ++ List.replicate k 0 := by
  obtain ⟨k, hk⟩ := cutL_pieces (frameB r)
  refine ⟨k, ?_⟩
  rw [← hk]
  unfold pcs cutB
  rw [List.map_map]
  rfl
theorem first_put (r : List UInt8) (rest : List ByteArray) (h : r.length ≤ 32768) : first (cutB r ++ rest) = (r, (cutB r).length) := by
  have e1 : (cutB r ++ rest).take (manyOf (cutB r ++ rest)) = cutB r := by rw [manyOf_put, List.take_left' rfl]
  obtain ⟨k, hk⟩ := pcs_cut r
  have e2 : nextR (pcs ((cutB r ++ rest).take (manyOf (cutB r ++ rest)))) = (r, List.replicate k 0, 0) := by
    rw [e1, hk, nextR_put _ _ h]
  unfold first
  rw [e2, if_neg (by simp), e1, if_pos rfl, manyOf_put]
theorem first_ok (bl : List ByteArray) (h : (first bl).2 ≠ 0) : bl = cutB (first bl).1 ++ bl.drop (first bl).2 ∧ (first bl).2 = (cutB (first bl).1).length ∧ (first bl).1.length ≤ 32768 ∧ (first bl).2 ≤ bl.length := by
  unfold first at h ⊢
  by_cases c1 : (nextR (pcs (bl.take (manyOf bl)))).2.2 ≠ 0
  · rw [if_pos c1] at h; exact absurd rfl h
  · rw [if_neg c1] at h ⊢
    by_cases c2 : cutB (nextR (pcs (bl.take (manyOf bl)))).1 = bl.take (manyOf bl)
    · rw [if_pos c2] at h ⊢
      simp only [] at h ⊢
      refine ⟨?_, ?_, ?_, manyOf_le bl⟩
      · rw [c2, List.take_append_drop]
      · rw [c2, List.length_take]; have := manyOf_le bl; omega
      · rcases hx : nextR (pcs (bl.take (manyOf bl))) with ⟨t, q, e⟩
        rw [hx] at c1
        simp only [ne_eq, Decidable.not_not] at c1
        subst c1
        exact (nextR_ok _ _ _ hx).2
    · rw [if_neg c2] at h; exact absurd rfl h
theorem first_zero (bl : List ByteArray) (h : (first bl).2 = 0) : first bl = ([], 0) := by
  unfold first at h ⊢
  by_cases c1 : (nextR (pcs (bl.take (manyOf bl)))).2.2 ≠ 0
  · rw [if_pos c1]
  · rw [if_neg c1] at h ⊢
    by_cases c2 : cutB (nextR (pcs (bl.take (manyOf bl)))).1 = bl.take (manyOf bl)
    · rw [if_pos c2] at h
      have h2 := cutB_pos (nextR (pcs (bl.take (manyOf bl)))).1
      simp only [] at h
      rw [c2, h] at h2
      simp at h2
    · rw [if_neg c2]

/-- The blocks of records, one behind the other. -/
def allB (l : List ByteArray) : List ByteArray := (l.map (fun t => cutB t.data.toList)).flatten
theorem allB_cons (t : ByteArray) (l : List ByteArray) : allB (t :: l) = cutB t.data.toList ++ allB l := rfl
theorem allB_append (a b : List ByteArray) : allB (a ++ b) = allB a ++ allB b := by simp [allB]
theorem allB_size (l : List ByteArray) : ∀ x ∈ allB l, x.size = 64 := by
  intro x hx
  unfold allB at hx
  obtain ⟨y, hy, hx⟩ := List.mem_flatten.1 hx
  obtain ⟨t, _, rfl⟩ := List.mem_map.1 hy
  exact cutB_size _ x hx
/-- The records of blocks, and how many blocks they have. -/
structure Recs (bl l : List ByteArray) (u : Nat) : Prop where
  small : ∀ t ∈ l, t.size ≤ 32768
  blocks : bl.take u = allB l
  le : u ≤ bl.length
  none : (first (bl.drop u)).2 = 0
theorem Recs.len {bl l : List ByteArray} {u : Nat} (h : Recs bl l u) : (allB l).length = u := by
  rw [← h.blocks, List.length_take]; have := h.le; omega
theorem Recs.eq {bl l : List ByteArray} {u : Nat} (h : Recs bl l u) : bl = allB l ++ bl.drop u := by
  rw [← h.blocks, List.take_append_drop]
theorem Recs.of_none {bl : List ByteArray} (h : (first bl).2 = 0) {m : List ByteArray} {k : Nat} (hr : Recs bl m k) : m = [] ∧ k = 0 := by
  cases m with
  | nil => exact ⟨rfl, by have := hr.len; simpa [allB] using this.symm⟩
  | cons t m =>
    exfalso
    have e := hr.eq
    rw [allB_cons, List.append_assoc] at e
    rw [e, first_put _ _ (by rw [← size_len]; exact hr.small t (by simp))] at h
    have := cutB_pos t.data.toList
    simp only [] at h
    omega
theorem Recs.pre {l : List ByteArray} (hs : ∀ t ∈ l, t.size ≤ 32768) {rest m : List ByteArray} {k : Nat} (h : Recs (allB l ++ rest) m k) :
    ∃ m' k', m = l ++ m' ∧ k = (allB l).length + k' ∧ Recs rest m' k' := by
  induction l generalizing m k with
  | nil => exact ⟨m, k, rfl, by simp [allB], h⟩
  | cons t l ih =>
    rw [allB_cons, List.append_assoc] at h
    have hf := first_put t.data.toList (allB l ++ rest) (by rw [← size_len]; exact hs t (by simp))
    have hp := cutB_pos t.data.toList
    cases m with
    | nil =>
      have hk : k = 0 := by have := h.len; simpa [allB] using this.symm
      subst hk
      have := h.none
      rw [List.drop_zero, hf] at this
      simp only [] at this
      omega
    | cons t2 m =>
      have e := h.eq
      rw [allB_cons, List.append_assoc] at e
      have hf2 := first_put t2.data.toList (allB m ++ (cutB t.data.toList ++ (allB l ++ rest)).drop k) (by rw [← size_len]; exact h.small t2 (by simp))
      rw [← e, hf] at hf2
      simp only [Prod.mk.injEq] at hf2
      have ht : t = t2 := by rw [← B_of t, ← B_of t2, hf2.1]
      subst ht
      have hlen := h.len
      rw [allB_cons, List.length_append] at hlen
      have h3 : Recs (allB l ++ rest) m (k - (cutB t.data.toList).length) := by
        refine ⟨fun x hx => h.small x (by simp [hx]), ?_, ?_, ?_⟩
        · have := h.blocks
          rw [allB_cons, List.take_append, List.take_of_length_le (by omega)] at this
          exact List.append_cancel_left this
        · have := h.le
          rw [List.length_append] at this
          omega
        · have := h.none
          rw [List.drop_append, List.drop_of_length_le (by omega), List.nil_append] at this
          exact this
      obtain ⟨m', k', rfl, hk, h4⟩ := ih (fun x hx => hs x (by simp [hx])) h3
      exact ⟨m', k', rfl, by rw [allB_cons, List.length_append]; omega, h4⟩
theorem Recs.uniq {bl l l' : List ByteArray} {u u' : Nat} (h : Recs bl l u) (h' : Recs bl l' u') : l' = l ∧ u' = u := by
  have e := h.eq
  rw [e] at h'
  obtain ⟨m', k', rfl, hk, h2⟩ := Recs.pre h.small h'
  obtain ⟨rfl, rfl⟩ := Recs.of_none h.none h2
  exact ⟨by simp, by have := h.len; omega⟩
theorem Recs.mk2 {l rest : List ByteArray} (hs : ∀ t ∈ l, t.size ≤ 32768) (h : (first rest).2 = 0) : Recs (allB l ++ rest) l (allB l).length :=
  ⟨hs, List.take_left' rfl, by simp, by rw [List.drop_left' rfl]; exact h⟩
/-- Blocks of which none ends begin with no record. -/
theorem first_noend (bl : List ByteArray) (h : ∀ x ∈ bl, ends x = false) : (first bl).2 = 0 := by
  have hm : manyOf bl = 0 := by
    unfold manyOf
    rw [if_neg]
    intro c
    have := List.findIdx_getElem (p := ends) (xs := bl) (w := c)
    rw [h _ (List.getElem_mem _)] at this
    cases this
  cases hc : (first bl).2 with
  | zero => rfl
  | succ n =>
    have := (first_ok bl (by omega)).1
    exfalso
    obtain ⟨i, l, e, h1, _⟩ := cutB_shape (first bl).1
    have hl : l ∈ bl := by rw [this, e]; simp
    rw [h l hl] at h1
    cases h1
end Go.Proofs.YtpmhgfjnabgilabDoor.Tr
namespace Go.Proofs.YtpmhgfjnabgilabDoor.Tr
open Wp

/-- Writes of blocks, one behind the other, from one on, until one fails. -/
def writes : Dev → Int → List ByteArray → Dev × Int
  | d, _, [] => (d, 0)
  | d, a, b :: l => if (d.write1 a b).2 = 0 then writes (d.write1 a b).1 (a + 1) l else d.write1 a b
/-- Zero bytes written to the blocks that have others. -/
def wipes : Dev → Int → List ByteArray → Dev × Int
  | d, _, [] => (d, 0)
  | d, a, b :: l => if b = zeros then wipes d (a + 1) l else if (d.write1 a zeros).2 = 0 then wipes (d.write1 a zeros).1 (a + 1) l else d.write1 a zeros
def rgn (d : Dev) (f m : Int) : List ByteArray := (d.hasAll.drop f.toNat).take m.toNat
def rchk (d : Dev) (f m : Int) : Int :=
  if d.ok = false then 2 else if d.dn then 9 else if f < 0 ∨ (d.bl.length : Int) < f ∨ m < 0 ∨ (d.bl.length : Int) - f < m then 1 else 0
def asIs (d : Dev) : Dev := if d.ok then d else Dev.zero
def fitC (d : Dev) (f m u : Int) (r : ByteArray) : Int :=
  if rchk d f m ≠ 0 then rchk d f m else if u < 0 ∨ m < u then 1 else if 32768 < r.size then 12 else if m - u < ((cutB r.data.toList).length : Int) then 8 else 0
def app (d : Dev) (f m u : Int) (r : ByteArray) : Dev × Int × Int :=
  if fitC d f m u r ≠ 0 then (asIs d, 0, fitC d f m u r)
  else if (writes d (f + u) (cutB r.data.toList)).2 = 0 then ((writes d (f + u) (cutB r.data.toList)).1, u + (cutB r.data.toList).length, 0)
  else ((writes d (f + u) (cutB r.data.toList)).1, 0, (writes d (f + u) (cutB r.data.toList)).2)
def wipe (d : Dev) (f m : Int) : Dev × Int := if rchk d f m ≠ 0 then (asIs d, rchk d f m) else wipes d f (rgn d f m)

theorem rchk_ok {d : Dev} {f m : Int} (h : rchk d f m = 0) : d.ok = true ∧ d.dn = false ∧ 0 ≤ f ∧ f + m ≤ (d.bl.length : Int) ∧ 0 ≤ m := by
  unfold rchk at h
  cases h1 : d.ok with
  | false => rw [if_pos h1] at h; cases h
  | true =>
    rw [if_neg (by rw [h1]; simp)] at h
    cases h2 : d.dn with
    | true => rw [if_pos h2] at h; cases h
    | false =>
      rw [if_neg (by rw [h2]; simp)] at h
      split at h
      · cases h
      · refine ⟨rfl, rfl, ?_, ?_, ?_⟩ <;> omega
theorem rchk_yes {d : Dev} {f m : Int} (h1 : d.ok = true) (h2 : d.dn = false) (h3 : 0 ≤ f) (h4 : f + m ≤ (d.bl.length : Int)) (h5 : 0 ≤ m) : rchk d f m = 0 := by
  unfold rchk
  rw [if_neg (by rw [h1]; simp), if_neg (by rw [h2]; simp), if_neg (by omega)]
theorem hasAll_length (d : Dev) : d.hasAll.length = d.bl.length := setAll_length _ _
theorem rgn_length {d : Dev} {f m : Int} (h : rchk d f m = 0) : (rgn d f m).length = m.toNat := by
  obtain ⟨_, _, h3, h4, h5⟩ := rchk_ok h
  unfold rgn
  rw [List.length_take, List.length_drop, hasAll_length]
  omega
theorem hasAll_size {d : Dev} (h : d.ok = true) : ∀ x ∈ d.hasAll, x.size = 64 := by
  obtain ⟨_, h4, h5⟩ := (Dev.ok_iff d).1 h
  exact mem_setAll h4 (fun x hx => (h5 x hx).2.2)
theorem rgn_size {d : Dev} {f m : Int} (h : d.ok = true) : ∀ x ∈ rgn d f m, x.size = 64 :=
  fun x hx => hasAll_size h x (List.mem_of_mem_drop (List.mem_of_mem_take hx))

/-- What waits of blocks that are written one behind the other. -/
def wsOf : Int → List ByteArray → List (Int × ByteArray)
  | _, [] => []
  | a, b :: l => (a, b) :: wsOf (a + 1) l
theorem wsOf_length (a : Int) (l : List ByteArray) : (wsOf a l).length = l.length := by
  induction l generalizing a with
  | nil => rfl
  | cons b l ih => simp only [wsOf, List.length_cons, ih]
theorem laid_full (b : ByteArray) (h : b.size = 64) : laid (B []) b b.size = b := by
  unfold laid laidL
  rw [size_len] at h
  rw [size_len, h, B_data]
  simp only [List.length_nil, Nat.sub_zero, List.nil_append]
  rw [List.take_of_length_le (by omega), List.drop_of_length_le (by simp), List.append_nil, B_of]
theorem zeros_size : zeros.size = 64 := laid_size _ _ _ (Nat.zero_le _) (Nat.zero_le _) (by simp [B_size])
/-- What writes have done, whether all are done or not. -/
theorem writes_spec (l : List ByteArray) : ∀ (d : Dev) (a : Int), Wp.Good d → d.dn = false → (∀ x ∈ l, x.size = 64) →
    ∃ j, j ≤ l.length ∧ Wp.Good (writes d a l).1 ∧ (writes d a l).1.bl = d.bl ∧ (writes d a l).1.ws = d.ws ++ wsOf a (l.take j) ∧ ((writes d a l).2 = 0 → j = l.length ∧ (writes d a l).1.dn = false) := by
  induction l with
  | nil => exact fun d a hg hd _ => ⟨0, Nat.le_refl _, hg, rfl, by simp [writes, wsOf], fun _ => ⟨rfl, hd⟩⟩
  | cons b l ih =>
    intro d a hg hd hs
    have hb := hs b (by simp)
    unfold writes
    by_cases h0 : (d.write1 a b).2 = 0
    · rw [if_pos h0]
      obtain ⟨w1, w2, w3, w4, w5, w6⟩ := Wp.written hg a b h0
      obtain ⟨j, j1, j2, j3, j4, j5⟩ := ih (d.write1 a b).1 (a + 1) (hg.write1 a b) w4 (fun x hx => hs x (by simp [hx]))
      refine ⟨j + 1, by simp; omega, j2, by rw [j3, w5], ?_, fun h => ⟨by have := (j5 h).1; simp; omega, (j5 h).2⟩⟩
      rw [j4, w6, laid_full b hb]
      simp [wsOf]
    · rw [if_neg h0]
      by_cases hno : d.writeNo a b.size = 0
      · obtain ⟨_, _, _, _, _, y6⟩ := write1_yes d a b hno
        refine ⟨1, by simp, hg.write1 a b, ?_, ?_, fun h => absurd h h0⟩
        · rw [y6, (spend_lists _).1]
        · rw [y6, (spend_lists _).2, laid_full b hb]; simp [wsOf]
      · rw [write1_no d a b hno]
        exact ⟨0, Nat.zero_le _, hg, rfl, by simp [wsOf], fun h => absurd h hno⟩
/-- Writes with power and room are all done. -/
theorem writes_done (l : List ByteArray) : ∀ (d : Dev) (a : Int), Wp.Good d → d.dn = false → d.fu = -1 → (∀ x ∈ l, x.size = 64) → 0 ≤ a → a + l.length ≤ d.bl.length → d.ws.length + l.length ≤ 4096 →
    (writes d a l).2 = 0 ∧ (writes d a l).1.fu = -1 := by
  induction l with
  | nil => exact fun d a _ _ hf _ _ _ _ => ⟨rfl, hf⟩
  | cons b l ih =>
    intro d a hg hd hf hs h0 h1 h2
    simp only [List.length_cons] at h1 h2
    have hb := hs b (by simp)
    have e : d.write1 a b = ({ d with ws := d.ws ++ [(a, laid (B []) b b.size)] }, 0) := by
      have hno : d.writeNo a b.size = 0 := by
        unfold Dev.writeNo inside
        rw [if_neg (by rw [hd]; simp), if_neg (by rw [decide_eq_true h0, decide_eq_true (show a < (d.bl.length : Int) by omega)]; simp), if_neg (by omega), if_neg (by omega)]
      obtain ⟨_, _, _, _, _, y6⟩ := write1_yes d a b hno
      rw [y6]
      unfold Dev.spend
      rw [if_neg (by simp [hf]), if_pos (by simp [hf])]
    have hg2 := hg.write1 a b
    unfold writes
    rw [e] at hg2 ⊢
    rw [if_pos rfl]
    refine ih _ (a + 1) hg2 hd hf (fun x hx => hs x (by simp [hx])) (by omega) (by simp only []; omega) ?_
    simp only [List.length_append, List.length_singleton]; omega
theorem setAll_append (bl : List ByteArray) (a b : List (Int × ByteArray)) : setAll bl (a ++ b) = setAll (setAll bl a) b := by simp [setAll]
theorem setAll_wsOf (l : List ByteArray) : ∀ (bl : List ByteArray) (a : Nat), a + l.length ≤ bl.length → setAll bl (wsOf a l) = bl.take a ++ l ++ bl.drop (a + l.length) := by
  induction l with
  | nil => intro bl a h; simp [setAll, wsOf]
  | cons b l ih =>
    intro bl a h
    simp only [List.length_cons] at h
    have e := ih (bl.set a b) (a + 1) (by rw [List.length_set]; omega)
    simp only [setAll, wsOf, List.foldl_cons, Int.toNat_natCast] at e ⊢
    rw [show ((a : Int) + 1) = ((a + 1 : Nat) : Int) by omega, e]
    have e2 : (bl.set a b).take (a + 1) = bl.take a ++ [b] := by
      rw [List.take_succ_eq_append_getElem (by rw [List.length_set]; omega), List.getElem_set_self, List.take_set_of_le (Nat.le_refl _)]
    have e3 : (bl.set a b).drop (a + 1 + l.length) = bl.drop (a + (l.length + 1)) := by
      rw [List.drop_set_of_lt (by omega)]; congr 1; omega
    rw [e2, e3]
    simp
/-- All that a device has behind writes. -/
theorem writes_has {d e : Dev} {a j : Nat} {l : List ByteArray} (hb : e.bl = d.bl) (hw : e.ws = d.ws ++ wsOf a (l.take j)) (hj : j ≤ l.length) (ha : a + l.length ≤ d.bl.length) :
    e.hasAll = d.hasAll.take a ++ l.take j ++ d.hasAll.drop (a + j) := by
  unfold Dev.hasAll
  have hl : (l.take j).length = j := by rw [List.length_take]; omega
  rw [hb, hw, setAll_append, setAll_wsOf _ _ _ (by rw [setAll_length, hl]; omega), hl]

/-- What a wipe that is done has done. -/
theorem wipes_spec (l : List ByteArray) : ∀ (d : Dev) (a : Nat), Wp.Good d → d.dn = false → a + l.length ≤ d.bl.length → (d.hasAll.drop a).take l.length = l → (wipes d a l).2 = 0 →
    Wp.Good (wipes d a l).1 ∧ (wipes d a l).1.dn = false ∧ (wipes d a l).1.bl = d.bl ∧ (wipes d a l).1.hasAll = d.hasAll.take a ++ List.replicate l.length zeros ++ d.hasAll.drop (a + l.length) := by
  induction l with
  | nil => intro d a hg hd _ _ _; exact ⟨hg, hd, rfl, by simp [wipes]⟩
  | cons b l ih =>
    intro d a hg hd hl he h0
    simp only [List.length_cons] at hl
    have hal : a < d.hasAll.length := by rw [hasAll_length]; omega
    have hd2 : d.hasAll.drop a = d.hasAll[a] :: d.hasAll.drop (a + 1) := List.drop_eq_getElem_cons hal
    rw [hd2, List.length_cons, List.take_succ_cons] at he
    simp only [List.cons.injEq] at he
    have ht : d.hasAll.take (a + 1) = d.hasAll.take a ++ [d.hasAll[a]] := List.take_succ_eq_append_getElem hal
    unfold wipes at h0 ⊢
    by_cases hb : b = zeros
    · rw [if_pos hb] at h0 ⊢
      obtain ⟨g1, g2, g3, g4⟩ := ih d (a + 1) hg hd (by omega) he.2 h0
      refine ⟨g1, g2, g3, ?_⟩
      have g4' : (wipes d ((a : Int) + 1) l).1.hasAll = _ := g4
      rw [g4', ht, he.1, hb]
      simp [List.replicate_succ, Nat.add_assoc, Nat.add_comm 1]
    · rw [if_neg hb] at h0 ⊢
      by_cases h1 : (d.write1 a zeros).2 = 0
      · rw [if_pos h1] at h0 ⊢
        obtain ⟨w1, w2, w3, w4, w5, w6⟩ := Wp.written hg a zeros h1
        have hw7 : (d.write1 a zeros).1.hasAll = d.hasAll.set a zeros := by
          unfold Dev.hasAll
          rw [w5, w6, laid_full _ zeros_size, setAll_snoc]
          rfl
        obtain ⟨g1, g2, g3, g4⟩ := ih (d.write1 a zeros).1 (a + 1) (hg.write1 a zeros) w4 (by rw [w5]; omega) (by rw [hw7, List.drop_set_of_lt (by omega)]; exact he.2) h0
        refine ⟨g1, g2, by rw [← w5]; exact g3, ?_⟩
        have g4' : (wipes (d.write1 a zeros).1 ((a : Int) + 1) l).1.hasAll = _ := g4
        rw [g4', hw7, List.drop_set_of_lt (by omega), List.take_succ_eq_append_getElem (by rw [List.length_set]; exact hal), List.getElem_set_self, List.take_set_of_le (Nat.le_refl _)]
        simp [List.replicate_succ, Nat.add_assoc, Nat.add_comm 1]
      · rw [if_neg h1] at h0
        exact absurd h0 h1
theorem wipes_zeros (n : Nat) (d : Dev) (a : Int) : wipes d a (List.replicate n zeros) = (d, 0) := by
  induction n generalizing a with
  | zero => rfl
  | succ n ih => rw [List.replicate_succ, wipes, if_pos rfl, ih]
/-- A wipe with power and room is done. -/
theorem wipes_done (l : List ByteArray) : ∀ (d : Dev) (a : Int), Wp.Good d → d.dn = false → d.fu = -1 → 0 ≤ a → a + l.length ≤ d.bl.length → d.ws.length + l.length ≤ 4096 → (wipes d a l).2 = 0 := by
  induction l with
  | nil => exact fun d a _ _ _ _ _ _ => rfl
  | cons b l ih =>
    intro d a hg hd hf h0 h1 h2
    simp only [List.length_cons] at h1 h2
    unfold wipes
    by_cases hb : b = zeros
    · rw [if_pos hb]
      exact ih d (a + 1) hg hd hf (by omega) (by omega) (by omega)
    · rw [if_neg hb]
      have e := writes_done [zeros] d a hg hd hf (by simp [zeros_size]) h0 (by simp; omega) (by simp; omega)
      have hg2 := hg.write1 a zeros
      have e1 : (d.write1 a zeros).2 = 0 ∧ (d.write1 a zeros).1.fu = -1 := by
        simp only [writes] at e
        by_cases h3 : (d.write1 a zeros).2 = 0
        · rw [if_pos h3] at e; exact ⟨h3, e.2⟩
        · rw [if_neg h3] at e; exact e
      rw [if_pos e1.1]
      obtain ⟨w1, w2, w3, w4, w5, w6⟩ := Wp.written hg a zeros e1.1
      exact ih _ (a + 1) hg2 w4 e1.2 (by omega) (by rw [w5]; omega) (by rw [w6]; simp; omega)

/-- Blocks of which a crash keeps some first bytes, over zero bytes. -/
def torn : List ByteArray → List Int → List ByteArray
  | [], _ => []
  | b :: l, ks => laid zeros b (clamp (ks.headD 0)) :: torn l ks.tail
theorem torn_length (l : List ByteArray) (ks : List Int) : (torn l ks).length = l.length := by
  induction l generalizing ks with
  | nil => rfl
  | cons b l ih => simp only [torn, List.length_cons, ih]
theorem tearAll_wsOf (l : List ByteArray) : ∀ (bl : List ByteArray) (a : Nat) (ks : List Int), a + l.length ≤ bl.length → (∀ i, i < l.length → nth bl (a + i) = zeros) →
    tearAll bl (wsOf a l) ks = bl.take a ++ torn l ks ++ bl.drop (a + l.length) := by
  induction l with
  | nil => intro bl a ks _ _; simp [tearAll, wsOf, torn]
  | cons b l ih =>
    intro bl a ks h hz
    simp only [List.length_cons] at h
    have h0 : nth bl a = zeros := hz 0 (by simp)
    have e := ih (bl.set a (laid zeros b (clamp (ks.headD 0)))) (a + 1) ks.tail (by rw [List.length_set]; omega) (by
      intro i hi
      rw [nth_set _ _ _ _ (by omega), if_neg (by omega), show a + 1 + i = a + (i + 1) by omega]
      exact hz (i + 1) (by simp; omega))
    rw [wsOf, tearAll_cons]
    simp only [Int.toNat_natCast]
    rw [h0, show ((a : Int) + 1) = ((a + 1 : Nat) : Int) by omega, e]
    have e2 : ∀ x, (bl.set a x).take (a + 1) = bl.take a ++ [x] := by
      intro x
      rw [List.take_succ_eq_append_getElem (by rw [List.length_set]; omega), List.getElem_set_self, List.take_set_of_le (Nat.le_refl _)]
    have e3 : ∀ x, (bl.set a x).drop (a + 1 + l.length) = bl.drop (a + (l.length + 1)) := by
      intro x
      rw [List.drop_set_of_lt (by omega)]; congr 1; omega
    rw [e2, e3]
    simp [torn]
theorem zeros_data : zeros.data.toList = List.replicate 64 0 := by
  unfold zeros laid laidL
  rw [B_data]
  simp [B_data]
theorem zeros_noend : ends zeros = false := by unfold ends; rw [zeros_data]; rfl
theorem zeros_nopiece : ¬ isPiece zeros := by
  rintro ⟨_, h⟩
  rw [zeros_data] at h
  rcases h with h | h <;> exact absurd h (by decide)
/-- A torn block that is a piece is whole. -/
theorem torn_piece (b : ByteArray) (n : Nat) (hb : b.size = 64) (hn : n ≤ 64) (h : isPiece (laid zeros b n)) : laid zeros b n = b := by
  have hl : b.data.toList.length = 64 := by rw [← size_len, hb]
  by_cases h64 : n = 64
  · subst h64
    unfold laid laidL
    rw [List.take_of_length_le (by omega), zeros_data, List.drop_of_length_le (by simp), List.append_nil, B_of]
  · exfalso
    have e : (laid zeros b n).data.toList.drop 63 = [0] := by
      unfold laid laidL
      rw [B_data, zeros_data, List.drop_append, List.drop_of_length_le (by rw [List.length_take]; omega), List.nil_append]
      rw [List.length_take, hl, show min n 64 = n by omega]
      simp only [List.length_replicate, Nat.sub_self, List.replicate_zero, List.append_nil, List.drop_replicate]
      rw [show 64 - n - (63 - n) = 1 by omega]
      rfl
    rcases h.2 with h | h <;> rw [e] at h <;> exact absurd h (by decide)
theorem torn_get (l : List ByteArray) : ∀ (ks : List Int) (i : Nat) (h : i < l.length), ∃ n, n ≤ 64 ∧ (torn l ks)[i]'(by rw [torn_length]; exact h) = laid zeros l[i] n := by
  induction l with
  | nil => intro ks i h; simp at h
  | cons b l ih =>
    intro ks i h
    cases i with
    | zero => exact ⟨clamp (ks.headD 0), clamp_le _, rfl⟩
    | succ i =>
      simp only [List.length_cons] at h
      exact ih ks.tail i (by omega)
/-- Behind a crash a record is there whole, or not at all. -/
theorem torn_first (r : List UInt8) (j z : Nat) (ks : List Int) (hj : j ≤ (cutB r).length)
    (h : (first (torn ((cutB r).take j) ks ++ List.replicate z zeros)).2 ≠ 0) : j = (cutB r).length ∧ torn ((cutB r).take j) ks = cutB r := by
  obtain ⟨t, ht⟩ : ∃ t, t = (first (torn ((cutB r).take j) ks ++ List.replicate z zeros)).1 := ⟨_, rfl⟩
  obtain ⟨m, hm⟩ : ∃ m, m = (first (torn ((cutB r).take j) ks ++ List.replicate z zeros)).2 := ⟨_, rfl⟩
  obtain ⟨h1, h2, h3, h4⟩ := first_ok _ h
  rw [← ht] at h1 h2 h3
  rw [← hm] at h1 h2 h4 h
  obtain ⟨l, hl⟩ : ∃ l, l = torn ((cutB r).take j) ks ++ List.replicate z zeros := ⟨_, rfl⟩
  rw [← hl] at h1 h4
  have htl : (torn ((cutB r).take j) ks).length = j := by rw [torn_length, List.length_take]; omega
  have key : ∀ i (hi : i < m), ∃ (h5 : i < (cutB r).length), i < j ∧ l[i]'(by omega) = (cutB r)[i] ∧ l[i]'(by omega) = (cutB t)[i]'(by omega) := by
    intro i hi
    have e1 : l[i]'(by omega) = (cutB t)[i]'(by omega) := by
      have : l[i]'(by omega) = (cutB t ++ l.drop m)[i]'(by rw [← h1]; omega) := by congr 1
      rw [this, List.getElem_append_left]
    have hp : isPiece (l[i]'(by omega)) := by
      rw [e1]
      obtain ⟨_, _, _, _, _, h⟩ := cutB_shape t
      exact h _ (List.getElem_mem _)
    have hij : i < j := by
      rcases Nat.lt_or_ge i j with h | h
      · exact h
      · exfalso
        apply zeros_nopiece
        have : l[i]'(by omega) = zeros := by
          simp only [hl]
          rw [List.getElem_append_right (by omega), List.getElem_replicate]
        rw [← this]; exact hp
    have hic : i < (cutB r).length := by omega
    obtain ⟨n, hn, en⟩ := torn_get ((cutB r).take j) ks i (by rw [List.length_take]; omega)
    have e2 : l[i]'(by omega) = laid zeros (cutB r)[i] n := by
      simp only [hl]
      rw [List.getElem_append_left (by omega), en, List.getElem_take]
    refine ⟨hic, hij, ?_, e1⟩
    rw [e2]
    refine torn_piece _ n (cutB_size _ _ (List.getElem_mem _)) hn ?_
    rw [← e2]; exact hp
  have hpre : ∀ i (hi : i < m), ∃ (h5 : i < (cutB r).length), (cutB t)[i]'(by omega) = (cutB r)[i] := by
    intro i hi
    obtain ⟨a, _, b, c⟩ := key i hi
    exact ⟨a, by rw [← c, b]⟩
  obtain ⟨i1, l1, a1, a2, a3, _⟩ := cutB_shape r
  obtain ⟨i2, l2, b1, b2, b3, _⟩ := cutB_shape t
  have hm1 : m = i2.length + 1 := by rw [h2, b1]; simp
  have hlast := hpre i2.length (by omega)
  obtain ⟨q1, q2⟩ := hlast
  have hrl : (cutB r).length = i1.length + 1 := by rw [a1]; simp
  have q3 : (cutB t)[i2.length]'(by omega) = l2 := by simp only [b1]; rw [List.getElem_append_right (Nat.le_refl _)]; simp
  have hlen : i2.length = i1.length := by
    rcases Nat.lt_or_ge i2.length i1.length with h | h
    · exfalso
      have : (cutB r)[i2.length] = i1[i2.length] := by simp only [a1]; rw [List.getElem_append_left h]
      rw [q3, this] at q2
      have := a3 _ (List.getElem_mem h)
      rw [← q2, b2] at this
      cases this
    · omega
  have hj2 := (key i2.length (by omega)).2.1
  have hjl : j = (cutB r).length := by omega
  refine ⟨hjl, ?_⟩
  apply List.ext_getElem
  · rw [htl]; exact hjl
  · intro i hi1 hi2
    obtain ⟨_, _, e, _⟩ := key i (by omega)
    rw [← e]
    simp only [hl]
    rw [List.getElem_append_left hi1]
theorem first_zeros (z : Nat) : (first (List.replicate z zeros)).2 = 0 := by
  apply first_noend
  intro x hx
  rw [(List.mem_replicate.1 hx).2]
  exact zeros_noend
/-- The records of a region in which one was appended, and torn. -/
theorem torn_recs {had m : List ByteArray} {r : ByteArray} {j z k : Nat} {ks : List Int} (hs : ∀ t ∈ had, t.size ≤ 32768) (hr : r.size ≤ 32768) (hj : j ≤ (cutB r.data.toList).length)
    (h : Recs (allB had ++ (torn ((cutB r.data.toList).take j) ks ++ List.replicate z zeros)) m k) :
    (m = had ∧ k = (allB had).length) ∨ (j = (cutB r.data.toList).length ∧ m = had ++ [r] ∧ k = (allB had).length + (cutB r.data.toList).length) := by
  obtain ⟨m', k', rfl, rfl, h2⟩ := Recs.pre hs h
  by_cases h0 : (first (torn ((cutB r.data.toList).take j) ks ++ List.replicate z zeros)).2 = 0
  · obtain ⟨rfl, rfl⟩ := Recs.of_none h0 h2
    exact Or.inl ⟨by simp, rfl⟩
  · obtain ⟨e1, e2⟩ := torn_first _ j z ks hj h0
    rw [e2] at h2
    have h3 := Recs.mk2 (l := [r]) (rest := List.replicate z zeros) (by simpa using hr) (first_zeros z)
    have e3 : allB [r] = cutB r.data.toList := by simp [allB]
    rw [e3] at h3
    obtain ⟨rfl, rfl⟩ := Recs.uniq h3 h2
    exact Or.inr ⟨e1, rfl, rfl⟩
end Go.Proofs.YtpmhgfjnabgilabDoor.Tr
namespace Go.Proofs.YtpmhgfjnabgilabDoor
open Go.RowKit

def Tr.cutR (r : ByteArray) : List ByteArray := if 32768 < r.size then [] else Tr.cutB r.data.toList
def Tr.cutC (r : ByteArray) : Int := if 32768 < r.size then 12 else 0
set_option maxRecDepth 100000 in
theorem Tr.cut_step (f : List UInt8) (h : 63 < f.length) : (Tr.cutL f).map Wp.B = ((Wp.B f).extract 0 63 ++ (⟨#[1]⟩ : ByteArray)) :: (Tr.cutL (f.drop 63)).map Wp.B := by
  rw [Tr.cutL_more f h, List.map_cons]
  congr 1
  rw [Wp.extract_B, Wp.B_data, List.drop_zero, Nat.sub_zero, show (⟨#[1]⟩ : ByteArray) = Wp.B [1] from rfl, Wp.B_append, Wp.B_data]
set_option maxRecDepth 100000 in
theorem Tr.cut_drop (f : List UInt8) : (Wp.B f).extract 63 (Wp.B f).size = Wp.B (f.drop 63) := by
  rw [Wp.extract_B, Wp.B_data, Wp.B_size, List.take_of_length_le (by rw [List.length_drop]; omega)]
set_option maxRecDepth 100000 in
theorem Tr.cut_end (f : List UInt8) (h : ¬ 63 < f.length) : (Tr.cutL f).map Wp.B = [Wp.B f ++ Wp.B (List.replicate (63 - f.length) 0) ++ (⟨#[2]⟩ : ByteArray)] := by
  rw [Tr.cutL_last f h, show (⟨#[2]⟩ : ByteArray) = Wp.B [2] from rfl, Wp.B_append, Wp.B_append, Wp.B_data, Wp.B_data]
  rfl
theorem Tr.repeat_zero (c : Nat) : Lib.repeatL [0] c = List.replicate c (0 : UInt8) := by
  induction c with
  | zero => rfl
  | succ c ih => rw [Lib.repeatL, ih, List.replicate_succ]; rfl
theorem rep_zeros (c : Nat) (w : World) (h : c ≤ 64) :
    Calls Tryd.prog 73 #[.string ⟨#[0]⟩, .int .i64 (c : Int)] w fun e w' => e = .returned (.string (Wp.B (List.replicate c 0))) ∧ Below w.heap.size w w' := by
  refine (Tryd.strings_Repeat ⟨#[0]⟩ c w (by omega) (by show 1 * c ≤ _; omega)).mono ?_
  rintro e w' ⟨rfl, hb⟩
  refine ⟨?_, hb⟩
  rw [show (⟨#[0]⟩ : ByteArray).data.toList = [0] from rfl, Tr.repeat_zero]
  rfl
set_option maxRecDepth 100000 in
set_option maxHeartbeats 2000000 in
theorem cut_any (r : ByteArray) (w : World) (hL : Sp.Laid w) (hs : r.size ≤ 281474976710656) :
    Calls Tryd.prog 65 #[.string r] w fun e w' => ∃ v, e = .returned (.tuple #[v, .int .i64 (Tr.cutC r)]) ∧ w'.ownsRow w.heap.size 9 1 v (Tr.cutR r).length ((Tr.cutR r).map Wp.mkT) ∧ Below w.heap.size w w' := by
  have hfr := fun w hL => frame_any r w hL hs
  have HL := Lib.hid hL
  clear hL
  by_cases h : 32768 < r.size
  · rw [show Sp.frameR r = ([], 12) from if_pos h] at hfr
    rw [show Tr.cutR r = [] from if_pos h, show Tr.cutC r = 12 from if_pos h]
    have Hfr := Lib.hid hfr
    clear hfr
    go_enter Tryd.func65, Tryd.ntmps65
    go_wp2_with fail
    refine (Hfr.out _ HL.out).mono ?_
    rintro e w1 ⟨rfl, hb⟩
    go_wp2_with fail
    go_ret2
    exact ⟨_, rfl, World.ownsRow_nil _ _ _ _, hb⟩
  · rw [show Sp.frameR r = (Sp.frameB r.data.toList, 0) from if_neg h] at hfr
    rw [show Tr.cutR r = Tr.cutB r.data.toList from if_neg h, show Tr.cutC r = 0 from if_neg h]
    have Hfr := Lib.hid hfr
    clear hfr
    have hfl : (Sp.frameB r.data.toList).length ≤ 40000 := by
      have := Wp.numB_len r.data.toList.length
      rw [Sp.frameB, List.length_append, List.length_append, Sp.four_len, ← Wp.size_len] at *
      omega
    obtain ⟨F, hF⟩ : ∃ F, F = Sp.frameB r.data.toList := ⟨_, rfl⟩
    obtain ⟨G, hG⟩ : ∃ G, G = Tr.cutB r.data.toList := ⟨_, rfl⟩
    have hG2 : G = (Tr.cutL F).map Wp.B := by rw [hG, hF]; rfl
    have hGl : G.length ≤ 1000 := by rw [hG2, List.length_map, Tr.cutL_length, hF]; omega
    rw [← hF] at hfl Hfr
    rw [← hG]
    have HG := Lib.hid hG2
    clear hG hG2 hF h
    obtain ⟨i0, hi, hz0, hz1, hz2⟩ := infoText_some
    go_enter Tryd.func65, Tryd.ntmps65
    go_wp2_with fail
    refine (Hfr.out _ HL.out).mono ?_
    rintro e w1 ⟨rfl, hb⟩
    go_wp2_with fail
    go_loopw [4, 6] (fun t4 t6 wr => ∃ (f : List UInt8) (acc : List ByteArray), t4 = .string (Wp.B f) ∧ f.length ≤ 40000 ∧ Hid (acc ++ (Tr.cutL f).map Wp.B = G) ∧ Hid (wr.ownsRow w.heap.size 9 1 t6 acc.length (acc.map Wp.mkT)) ∧ Below w.heap.size w wr) (fun t4 _ _ => match t4 with | .string s => s.size | _ => 0)
    case atStart => exact ⟨F, [], rfl, hfl, Lib.hid (by rw [HG.out]; rfl), Lib.hid (World.ownsRow_nil _ _ _ _), hb⟩
    case round =>
      obtain ⟨f, acc, rfl, hf, Hacc, Hown, hB⟩ := hrel
      have hsz : ((Wp.B f).size : Int) = (f.length : Int) := by rw [Wp.B_size]
      have hsn : (Wp.B f).size = f.length := Wp.B_size f
      have hal : acc.length ≤ 1000 := by have := congrArg List.length Hacc.out; rw [List.length_append] at this; omega
      have hBs := hB.size
      by_cases hlt : 63 < f.length
      · have hd := Lib.hid (Tr.cut_drop f)
        have hst := Lib.hid (Tr.cut_step f hlt)
        have hl2 : (f.drop 63).length = f.length - 63 := by rw [List.length_drop]
        go_wp2_with (at_builtin; refine wpList_append_own _ rfl _ _ 22 rfl w.heap.size 9 i0 _ 1 16 Tryd.underlying22 hi hz0 hz1 hz2 rfl (by decide) _ _ _ rfl (Hown.out.alloc _) ⟨wr.heap.size, 0, none⟩ 1 1 [Wp.mkT ((Wp.B f).extract 0 63 ++ (⟨#[1]⟩ : ByteArray))] rfl rfl ?c1 ?c2 ?c3 ?c4 ?c5 ?_)
        case c1 => exact cell_one_new _ _ _
        case c2 => simp [Wp.mkT, Value.oneCell']
        case c3 => unfold maxLen; omega
        case c4 => omega
        case c5 => simp; omega
        intro v' w4 hown4 hgrow4 _
        have hB4 := below_grown (hB.alloc hBs _) (Hown.out.alloc _) (Nat.le_refl _) hgrow4
        have Hown4 := Lib.hid hown4
        clear hown4 hgrow4
        go_wp2_with fail
        refine ⟨⟨f.drop 63, acc ++ [(Wp.B f).extract 0 63 ++ (⟨#[1]⟩ : ByteArray)], by rw [← hsn, hd.out], by omega, Lib.hid (by rw [← Hacc.out, hst.out]; simp), Lib.hid (by rw [List.length_append, List.map_append]; exact Hown4.out), hB4⟩, ?_⟩
        show ((Wp.B f).extract 63 f.length).size < (Wp.B f).size
        rw [ByteArray.size_extract]; omega
      · have hst := Lib.hid (Tr.cut_end f hlt)
        have hG := hst.out ▸ Hacc.out
        have HG3 := Lib.hid hG
        clear hG hst Hacc
        go_wp2_with fail
        rw [show (63 : Int) - (f.length : Int) = ((63 - f.length : Nat) : Int) by omega]
        refine (rep_zeros _ _ (by omega)).mono ?_
        rintro e w3 ⟨rfl, hb3⟩
        have hB3 := hB.trans (hb3.mono hBs)
        have hBs3 := hB3.size
        have Hown3 := Lib.hid (ownsRow_below Hown.out hb3)
        have hzs : (Wp.B (List.replicate (63 - f.length) 0)).size = 63 - f.length := by rw [Wp.B_size, List.length_replicate]
        go_wp2_with (at_builtin; refine wpList_append_own _ rfl _ _ 22 rfl w.heap.size 9 i0 _ 1 16 Tryd.underlying22 hi hz0 hz1 hz2 rfl (by decide) _ _ _ rfl (Hown3.out.alloc _) ⟨w3.heap.size, 0, none⟩ 1 1 [Wp.mkT (Wp.B f ++ Wp.B (List.replicate (63 - f.length) 0) ++ (⟨#[2]⟩ : ByteArray))] rfl rfl ?c1 ?c2 ?c3 ?c4 ?c5 ?_)
        case c1 => exact cell_one_new _ _ _
        case c2 => simp [Wp.mkT, Value.oneCell']
        case c3 => unfold maxLen; omega
        case c4 => omega
        case c5 => simp; omega
        intro v' w4 hown4 hgrow4 _
        have hB4 := below_grown (hB3.alloc hBs3 _) (Hown3.out.alloc _) (Nat.le_refl _) hgrow4
        have Hown4 := Lib.hid hown4
        clear hown4 hgrow4
        go_wp2_with fail
        go_ret2
        refine ⟨v', rfl, ?_, hB4⟩
        rw [← HG3.out, List.length_append, List.map_append]
        exact Hown4.out
end Go.Proofs.YtpmhgfjnabgilabDoor
