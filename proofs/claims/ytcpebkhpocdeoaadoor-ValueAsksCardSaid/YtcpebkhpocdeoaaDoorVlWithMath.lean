
/-
  What is put into a map by a name, as plain data; where a name's place is. No condition but those that the theorems state.
-/
import Derived.Test.YtcpebkhpocdeoaaDoorVlFind
import Derived.Test.YtcpebkhpocdeoaaDoorVlSearch
namespace Go.Proofs.YtcpebkhpocdeoaaDoor.Vl

theorem bl_trans : ∀ {a b c : List UInt8}, Op.bytesLess a b = true → Op.bytesLess b c = true → Op.bytesLess a c = true
  | _, [], _, h, _ => by cases ‹List UInt8› <;> simp [Op.bytesLess] at h
  | [], _ :: _, [], _, h => by simp [Op.bytesLess] at h
  | [], _ :: _, _ :: _, _, _ => by simp [Op.bytesLess]
  | _ :: _, _ :: _, [], _, h => by simp [Op.bytesLess] at h
  | x :: a, y :: b, z :: c, h1, h2 => by
    simp only [Op.bytesLess, Bool.or_eq_true, Bool.and_eq_true, decide_eq_true_eq, beq_iff_eq] at h1 h2 ⊢
    rcases h1 with h1 | ⟨rfl, h1⟩
    · rcases h2 with h2 | ⟨rfl, h2⟩
      · exact Or.inl (UInt8.lt_trans h1 h2)
      · exact Or.inl h1
    · rcases h2 with h2 | ⟨rfl, h2⟩
      · exact Or.inl h2
      · exact Or.inr ⟨rfl, bl_trans h1 h2⟩
theorem bl_total : ∀ (a b : List UInt8), Op.bytesLess a b = true ∨ a = b ∨ Op.bytesLess b a = true
  | [], [] => Or.inr (Or.inl rfl)
  | [], _ :: _ => Or.inl (by simp [Op.bytesLess])
  | _ :: _, [] => Or.inr (Or.inr (by simp [Op.bytesLess]))
  | x :: a, y :: b => by
    have ih := bl_total a b
    simp only [Op.bytesLess]
    by_cases hxy : x < y
    · exact Or.inl (by simp [hxy])
    · by_cases hyx : y < x
      · exact Or.inr (Or.inr (by simp [hyx]))
      · have hx : x = y := UInt8.le_antisymm (UInt8.not_lt.1 hyx) (UInt8.not_lt.1 hxy)
        subst hx
        rcases ih with h | h | h
        · exact Or.inl (by simp [h])
        · exact Or.inr (Or.inl (by rw [h]))
        · exact Or.inr (Or.inr (by simp [h]))
theorem bl_irrefl : ∀ (a : List UInt8), Op.bytesLess a a = false
  | [] => by simp [Op.bytesLess]
  | x :: a => by simp [Op.bytesLess, bl_irrefl a]
theorem ba_ext {a b : ByteArray} (h : a.toList = b.toList) : a = b := by
  rw [Lib.toList_data, Lib.toList_data] at h
  cases a; cases b
  congr 1
  exact Array.toList_inj.1 h
theorem upB_lt {a x : ByteArray} (h : upB a x = true) : ltB a x = true := by
  unfold upB at h
  simp only [Bool.not_eq_true', Bool.or_eq_false_iff, beq_eq_false_iff_ne] at h
  rcases bl_total a.toList x.toList with h1 | h1 | h1
  · exact h1
  · exact absurd h1.symm h.2
  · rw [h.1] at h1; cases h1
theorem rise_all : ∀ {a : ByteArray} {l : List ByteArray}, rise a l = true → ∀ x ∈ l, ltB a x = true
  | _, [], _, _, h => by simp at h
  | a, y :: l, h, x, hx => by
    rw [rise, Bool.and_eq_true, Bool.and_eq_true] at h
    have h1 := upB_lt h.1.2
    rcases List.mem_cons.1 hx with rfl | hx
    · exact h1
    · exact bl_trans h1 (rise_all h.2 x hx)
/-- A name's place. -/
def posN (s : ByteArray) : List ByteArray → Nat
  | [] => 0
  | n :: l => if ltB n s then posN s l + 1 else 0
theorem posN_le (s : ByteArray) : ∀ l, posN s l ≤ l.length
  | [] => Nat.le_refl _
  | n :: l => by
    have := posN_le s l
    rw [posN]
    split
    · simp; exact this
    · simp
theorem posN_spec (s : ByteArray) : ∀ {a : ByteArray} {l : List ByteArray}, rise a l = true → ∀ t (h : t < l.length), ltB l[t] s = decide (t < posN s l)
  | _, [], _, _, h => by simp at h
  | a, n :: l, hr, t, h => by
    have hr2 := hr
    rw [rise, Bool.and_eq_true, Bool.and_eq_true] at hr2
    rw [posN]
    cases hn : ltB n s with
    | true =>
      rw [if_pos rfl]
      cases t with
      | zero => simp [hn]
      | succ t =>
        have := posN_spec s hr2.2 t (by simpa using h)
        simp only [List.getElem_cons_succ, this]
        exact decide_eq_decide.2 (by omega)
    | false =>
      rw [if_neg (by simp), decide_eq_false (Nat.not_lt_zero _)]
      cases t with
      | zero => exact hn
      | succ t =>
        cases hl : ltB (n :: l)[t + 1] s with
        | false => rfl
        | true =>
          have htl : t < l.length := by simpa using h
          have h1 := rise_all hr2.2 _ (List.getElem_mem htl)
          have hl2 : ltB (l[t]'htl) s = true := by simpa using hl
          have h2 := bl_trans h1 hl2
          have h3 : ltB n s = true := h2
          rw [hn] at h3
          cases h3
/-- A map with a value by a name. -/
def withV (v : V) (s : ByteArray) (x : V) : V := if hasAt v.names (posN s v.names) s then .mk v.kind v.text v.num (v.items.set (posN s v.names) x) v.names
  else .mk v.kind v.text v.num (v.items.take (posN s v.names) ++ x :: v.items.drop (posN s v.names)) (v.names.take (posN s v.names) ++ s :: v.names.drop (posN s v.names))
/-- What With tells. -/
def withR (v : V) (s : ByteArray) (x : V) : V × Int := if !good v then (zero, 2) else if !good x then (zero, 2) else if v.kind ≠ 5 then (zero, 2) else if !named s then (zero, 13) else if !good (withV v s x) then (zero, 11) else (withV v s x, 0)
theorem hasAt_eq {l : List ByteArray} {k : Nat} {s : ByteArray} (h : hasAt l k s = true) : ∃ hk : k < l.length, l[k] = s := by
  unfold hasAt at h
  cases hl : l[k]? with
  | none => rw [hl] at h; cases h
  | some x =>
    rw [hl] at h
    obtain ⟨hk, he⟩ := List.getElem?_eq_some_iff.1 hl
    exact ⟨hk, he.trans (of_decide_eq_true h)⟩
theorem okMap {l : Nat} {v : V} (h : okV l v = true) (hk : v.kind = 5) : namesOk v.names = true ∧ v.names.length = v.items.length ∧ v.text.size = 0 ∧ v.num = 0 := by
  cases l with
  | zero => cases h
  | succ l =>
    cases v with
    | mk k t n is ns =>
      rw [okV, Bool.and_eq_true] at h
      have hle := h.1
      change k = 5 at hk
      subst hk
      change leafC 5 t n is.length ns = true at hle
      unfold leafC at hle
      simp only [Bool.and_eq_true, decide_eq_true_eq] at hle
      exact ⟨hle.2, hle.1.2, hle.1.1.1, hle.1.1.2⟩
theorem goodMap {v : V} (h : good v = true) (hk : v.kind = 5) : namesOk v.names = true ∧ v.names.length = v.items.length ∧ v.text.size = 0 ∧ v.num = 0 := by
  unfold good at h
  rw [Bool.and_eq_true] at h
  exact okMap h.1 hk
end Go.Proofs.YtcpebkhpocdeoaaDoor.Vl
