
/-
  Plain mathematics of frames: a frame's bytes, the frame that bytes begin with, and that each is the other's inverse. No condition but those that the theorems state.
-/
import Derived.Test.YtpmhgfjnabgilabDoorSumPlain
import Derived.Test.YtpmhgfjnabgilabDoorPlainTwo
namespace Go.Proofs.YtpmhgfjnabgilabDoor.Sp
open Wp

/-- A frame's bytes. -/
def frameB (l : List UInt8) : List UInt8 := numB l.length ++ four (on 0 l) ++ l
/-- The frame that bytes begin with: its data, what is behind it, and why there is none. -/
def nextR (s : List UInt8) : List UInt8 × List UInt8 × Int :=
  if (getNum s).2.2 ≠ 0 then ([], [], (getNum s).2.2)
  else if (getNum s).1 < 0 then ([], [], 7)
  else if 32768 < (getNum s).1 then ([], [], 12)
  else if ((getNum s).2.1.length : Int) < 4 + (getNum s).1 then ([], [], 5)
  else if four (on 0 (((getNum s).2.1.drop 4).take (getNum s).1.toNat)) ≠ (getNum s).2.1.take 4 then ([], [], 6)
  else (((getNum s).2.1.drop 4).take (getNum s).1.toNat, (getNum s).2.1.drop (4 + (getNum s).1.toNat), 0)
theorem nextR_eq (s : List UInt8) (n : Int) (r : List UInt8) (e : Int) (h : getNum s = (n, r, e)) :
    nextR s = if e ≠ 0 then ([], [], e) else if n < 0 then ([], [], 7) else if 32768 < n then ([], [], 12) else if (r.length : Int) < 4 + n then ([], [], 5)
      else if four (on 0 ((r.drop 4).take n.toNat)) ≠ r.take 4 then ([], [], 6) else ((r.drop 4).take n.toNat, r.drop (4 + n.toNat), 0) := by
  unfold nextR
  rw [h]
theorem four_len (n : Nat) : (four n).length = 4 := rfl
theorem nextR_put (l s : List UInt8) (h : l.length ≤ 32768) : nextR (frameB l ++ s) = (l, s, 0) := by
  have e1 : getNum (frameB l ++ s) = ((l.length : Int), four (on 0 l) ++ (l ++ s), 0) := by
    rw [frameB, List.append_assoc, List.append_assoc, getNum_numB _ ⟨by omega, by omega⟩]
  have e2 : (four (on 0 l) ++ (l ++ s)).drop 4 = l ++ s := List.drop_left' (four_len _)
  have e3 : (four (on 0 l) ++ (l ++ s)).take 4 = four (on 0 l) := List.take_left' (four_len _)
  rw [nextR_eq _ _ _ _ e1, if_neg (by simp), if_neg (by omega), if_neg (by omega), if_neg (by
    simp only [List.length_append, four_len]; omega), e2, e3]
  rw [Int.toNat_natCast, List.take_left' rfl, if_neg (by simp)]
  rw [← List.drop_drop, e2, List.drop_left' rfl]
theorem nextR_ok (s t r : List UInt8) (h : nextR s = (t, r, 0)) : frameB t ++ r = s ∧ t.length ≤ 32768 := by
  rcases hg : getNum s with ⟨n, q, e⟩
  rw [nextR_eq _ _ _ _ hg] at h
  by_cases c : e = 0
  · subst c
    rw [if_neg (by simp)] at h
    by_cases c1 : n < 0
    · rw [if_pos c1] at h; simp at h
    · rw [if_neg c1] at h
      by_cases c2 : 32768 < n
      · rw [if_pos c2] at h; simp at h
      · rw [if_neg c2] at h
        by_cases c3 : (q.length : Int) < 4 + n
        · rw [if_pos c3] at h; simp at h
        · rw [if_neg c3] at h
          by_cases c4 : four (on 0 ((q.drop 4).take n.toNat)) = q.take 4
          · rw [if_neg (by simpa using c4)] at h
            simp only [Prod.mk.injEq] at h
            obtain ⟨rfl, rfl, _⟩ := h
            have h1 := (getNum_ok s (by rw [hg])).1
            rw [hg] at h1
            simp only [] at h1
            have hl : ((q.drop 4).take n.toNat).length = n.toNat := by rw [List.length_take, List.length_drop]; omega
            refine ⟨?_, by omega⟩
            rw [frameB, hl, c4, show ((n.toNat : Nat) : Int) = n by omega, List.append_assoc, List.append_assoc, ← List.drop_drop, List.take_append_drop, List.take_append_drop]
            exact h1
          · rw [if_pos c4] at h; simp at h
  · rw [if_pos c] at h
    simp only [Prod.mk.injEq] at h
    exact absurd h.2.2 c
theorem nextR_bad (s t r : List UInt8) (e : Int) (h : nextR s = (t, r, e)) (he : e ≠ 0) : t = [] ∧ r = [] := by
  rcases hg : getNum s with ⟨n, q, e1⟩
  rw [nextR_eq _ _ _ _ hg] at h
  repeat' split at h
  all_goals simp only [Prod.mk.injEq] at h
  all_goals first | exact ⟨h.1.symm, h.2.1.symm⟩ | exact absurd h.2.2.symm he
/-- A frame's data with one byte turned is no frame. -/
theorem nextR_turned (p : List UInt8) (x y : UInt8) (q : List UInt8) (h : x ≠ y) (hl : (p ++ x :: q).length ≤ 32768) :
    nextR (numB (p ++ x :: q).length ++ four (on 0 (p ++ x :: q)) ++ (p ++ y :: q)) = ([], [], 6) := by
  obtain ⟨l, hle⟩ : ∃ l, l = (p ++ x :: q) := ⟨_, rfl⟩
  obtain ⟨m, hme⟩ : ∃ m, m = (p ++ y :: q) := ⟨_, rfl⟩
  have hlm : m.length = l.length := by rw [hle, hme]; simp
  have hne : on 0 m ≠ on 0 l := by rw [hle, hme]; exact fun c => on_turned 0 p x y q h c.symm
  rw [← hle] at hl ⊢
  rw [← hme]
  have e1 : getNum (numB l.length ++ four (on 0 l) ++ m) = ((l.length : Int), four (on 0 l) ++ m, 0) := by
    rw [List.append_assoc, getNum_numB _ ⟨by omega, by omega⟩]
  have e2 : (four (on 0 l) ++ m).drop 4 = m := List.drop_left' (four_len _)
  have e3 : (four (on 0 l) ++ m).take 4 = four (on 0 l) := List.take_left' (four_len _)
  rw [nextR_eq _ _ _ _ e1, if_neg (by simp), if_neg (by omega), if_neg (by omega), if_neg (by
    simp only [List.length_append, four_len]; omega), e2, e3]
  rw [Int.toNat_natCast, ← hlm, List.take_length, if_pos]
  intro c
  exact hne (four_inj _ _ (on_lt _ _) (on_lt _ _) c)

/-- The first nine bytes tell the number as all do. -/
theorem gn_first (s : ByteArray) (n : Int) (r : List UInt8) (e : Int) (h : gn s = (n, r, e)) (m : Nat) (hm : m = min s.size 9) :
    ∃ r9, gn (s.extract 0 m) = (n, r9, e) ∧ r9.length ≤ m ∧ (e = 0 → r9.length + (numB n).length = m ∧ (numB n).length ≤ 9 ∧ r.length + (numB n).length = s.size ∧ s.data.toList = numB n ++ r) := by
  have hsz : (s.extract 0 m).size = m := by rw [ByteArray.size_extract]; omega
  have hlen : e = 0 → r.length + (numB n).length = s.size ∧ s.data.toList = numB n ++ r := by
    intro he
    subst he
    have h1 := (getNum_ok s.data.toList (by have : getNum s.data.toList = (n, r, 0) := h; rw [this])).1
    have h2 : getNum s.data.toList = (n, r, 0) := h
    rw [h2] at h1
    simp only [] at h1
    refine ⟨?_, h1.symm⟩
    rw [size_len, ← h1, List.length_append]
    omega
  by_cases h0 : s.size = 0
  · have hg := gn_empty s h0
    rw [h] at hg
    simp only [Prod.mk.injEq] at hg
    obtain ⟨rfl, rfl, rfl⟩ := hg
    refine ⟨[], gn_empty _ (by rw [hsz]; omega), by simp, fun c => by simp at c⟩
  · have hpos : 0 < s.size := by omega
    have hpos9 : 0 < (s.extract 0 m).size := by rw [hsz]; omega
    have hb0 : (s.extract 0 m)[0] = s[0] := by rw [ByteArray.getElem_extract]
    obtain ⟨k, hk⟩ : ∃ k, s[0].toNat % 128 = k := ⟨_, rfl⟩
    obtain ⟨b, hb⟩ : ∃ b, decide (128 ≤ s[0].toNat) = b := ⟨_, rfl⟩
    have g1 := gn_eq s hpos k hk b hb _ rfl
    have g2 := gn_eq (s.extract 0 m) hpos9 k (by rw [hb0]; exact hk) b (by rw [hb0]; exact hb) _ rfl
    rw [hsz] at g2
    rw [h] at g1
    by_cases h8 : 8 < k
    · rw [if_pos h8] at g1 g2
      simp only [Prod.mk.injEq] at g1
      obtain ⟨rfl, rfl, rfl⟩ := g1
      exact ⟨[], g2, by simp, fun c => by simp at c⟩
    · rw [if_neg h8] at g1 g2
      by_cases hs : s.size < 1 + k
      · rw [if_pos hs] at g1
        rw [if_pos (by omega)] at g2
        simp only [Prod.mk.injEq] at g1
        obtain ⟨rfl, rfl, rfl⟩ := g1
        exact ⟨[], g2, by simp, fun c => by simp at c⟩
      · rw [if_neg hs] at g1
        rw [if_neg (by omega)] at g2
        have hmg : ((s.extract 0 m).extract 1 (1 + k)).data.toList = (s.extract 1 (1 + k)).data.toList := by
          simp only [data_extract, List.drop_zero, Nat.sub_zero]
          rw [List.drop_take, List.take_take]
          congr 1
          omega
        rw [hmg] at g2
        by_cases hok : okMag b (s.extract 1 (1 + k)).data.toList = true
        · rw [if_pos hok] at g1 g2
          simp only [Prod.mk.injEq] at g1
          obtain ⟨rfl, rfl, rfl⟩ := g1
          have hl := hlen rfl
          have hr : (s.extract (1 + k) s.size).data.toList.length = s.size - (1 + k) := by rw [← size_len, ByteArray.size_extract]; omega
          have hr9 : ((s.extract 0 m).extract (1 + k) m).data.toList.length = m - (1 + k) := by rw [← size_len, ByteArray.size_extract, hsz]; omega
          refine ⟨_, g2, by rw [hr9]; omega, fun _ => ⟨by rw [hr9]; omega, numB_len _, hl⟩⟩
        · rw [if_neg hok] at g1 g2
          simp only [Prod.mk.injEq] at g1
          obtain ⟨rfl, rfl, rfl⟩ := g1
          exact ⟨[], g2, by simp, fun c => by simp at c⟩
end Go.Proofs.YtpmhgfjnabgilabDoor.Sp
