/-
  The law TopFramed, all its ways: lists that are framed, one behind the other, are told next as they were. Conditions: the table reads as it is laid, the numbers fit 64 bits, each text takes at most 2^47 bytes.
-/
import Derived.Test.YtdhiekhinimohaaDoorTop
namespace Go.Proofs.YtdhiekhinimohaaDoor
open Go.RowKit

theorem Wp.list_len2 {α : Type} (f : α → List UInt8) (l : List α) (c : Nat) (hl : l.length ≤ 1024) (h : ∀ x ∈ l, (f x).length ≤ c) : (Wp.B (Wp.listB f l)).size ≤ 9 + 1024 * c := by
  have h1 := Wp.flat_len f c l h
  have h2 := Wp.numB_len l.length
  have h4 : l.length * c ≤ 1024 * c := Nat.mul_le_mul_right _ hl
  rw [Wp.B_size, Wp.listB, List.length_append]
  omega
theorem Wp.longs_no2 (l : List ByteArray) (h : Wp.longs l = false) : l.length ≤ 1024 ∧ ∀ x ∈ l, x.size ≤ 4096 := by
  unfold Wp.longs at h
  rw [Bool.or_eq_false_iff] at h
  refine ⟨by simpa using h.1, fun x hx => ?_⟩
  have := h.2
  rw [List.any_eq_false] at this
  have := this x hx
  simpa using this
theorem Wp.longs_of2 (l : List ByteArray) (h1 : l.length ≤ 1024) (h2 : ∀ x ∈ l, x.size ≤ 4096) : Wp.longs l = false := by
  unfold Wp.longs
  rw [Bool.or_eq_false_iff]
  refine ⟨by simpa using h1, ?_⟩
  rw [List.any_eq_false]
  intro x hx
  have := h2 x hx
  simpa using this
theorem Wp.textBs_len2 (l : List ByteArray) (h : ∀ x ∈ l, x.size ≤ 4096) : ∀ x ∈ l, (Wp.textBs x).length ≤ 4105 := by
  intro x hx
  have h5 := Wp.textB_len x.data.toList
  rw [← Wp.size_len] at h5
  have := h x hx
  unfold Wp.textBs
  omega


/-- The whole law. -/
theorem framed_any (pa : Option Addr) (ca : Nat) (a : List ByteArray) (pb : Option Addr) (cb : Nat) (b : List Int) (more : ByteArray) (hla : a.length ≤ 140737488351232) (hlb : b.length ≤ 140737488351232)
    (ha : ∀ x ∈ a, x.size ≤ 140737488351232) (hb : ∀ x ∈ b, Wp.I64 x) (hm : more.size ≤ 140737488351232) (w : World) (hL : Sp.Laid w) (aa : Wp.At Wp.mkT w pa a) (ab : Wp.At Wp.mkN w pb b) :
    Calls Tryd.prog 8 #[.slice pa a.length ca, .slice pb b.length cb, .string more] w fun e w' => e = .returned (.bool true) ∧ Below w.heap.size w w' := by
  have zS : (Wp.B (Wp.textsR a).1).size ≤ 281474976710656 := by
    unfold Wp.textsR
    cases hl : Wp.longs a with
    | true => rw [if_pos rfl, Wp.B_size]; simp
    | false =>
      obtain ⟨h1, h2⟩ := Wp.longs_no2 a hl
      rw [if_neg (by simp)]
      have := Wp.list_len2 Wp.textBs a 4105 h1 (Wp.textBs_len2 a h2)
      simp only []
      omega
  have zT : (Wp.B (Wp.numsR b).1).size ≤ 32768 := by
    unfold Wp.numsR
    by_cases hl : 1024 < b.length
    · rw [if_pos hl, Wp.B_size]; simp
    · rw [if_neg hl]
      have := Wp.list_len2 Wp.numB b 9 (by omega) (fun x _ => Wp.numB_len x)
      simp only []
      omega
  have HH : Sp.Heads pa ca a pb cb b (Wp.B (Wp.textsR a).1) (Wp.B (Wp.numsR b).1) (Wp.B (Sp.frameR (Wp.B (Wp.textsR a).1)).1) (Wp.B (Sp.frameR (Wp.B (Wp.numsR b).1)).1) (Wp.textsR a).2 (Wp.numsR b).2 (Sp.frameR (Wp.B (Wp.textsR a).1)).2 (Sp.frameR (Wp.B (Wp.numsR b).1)).2 :=
    ⟨fun w h => texts_any pa ca a w (by omega) h (fun x hx => by have := ha x hx; omega), fun w h => nums_any pb cb b w (by omega) h hb, fun w h => frame_any _ w h zS, fun w h => frame_any _ w h (by omega)⟩
  by_cases hno : (Wp.textsR a).2 ≠ 0 ∨ (Wp.numsR b).2 ≠ 0 ∨ (Sp.frameR (Wp.B (Wp.textsR a).1)).2 ≠ 0 ∨ (Sp.frameR (Wp.B (Wp.numsR b).1)).2 ≠ 0
  · exact framed_no pa ca a pb cb b more _ _ _ _ _ _ _ _ HH hno w hL aa ab
  · have y1 : (Wp.textsR a).2 = 0 := by omega
    have y2 : (Wp.numsR b).2 = 0 := by omega
    have y3 : (Sp.frameR (Wp.B (Wp.textsR a).1)).2 = 0 := by omega
    have y4 : (Sp.frameR (Wp.B (Wp.numsR b).1)).2 = 0 := by omega
    have hl1 : Wp.longs a = false := by
      cases hl : Wp.longs a with
      | true => unfold Wp.textsR at y1; rw [hl] at y1; simp at y1
      | false => rfl
    obtain ⟨g1, g2⟩ := Wp.longs_no2 a hl1
    have r1 : Wp.textsR a = (Wp.listB Wp.textBs a, 0) := by unfold Wp.textsR; rw [hl1]; rfl
    have hl2 : ¬ 1024 < b.length := fun h => by unfold Wp.numsR at y2; rw [if_pos h] at y2; simp at y2
    have r2 : Wp.numsR b = (Wp.listB Wp.numB b, 0) := if_neg hl2
    rw [r1, r2] at HH
    rw [r2] at zT y4
    rw [r1] at zS y3
    simp only [] at y3 y4 HH zT zS
    have hl3 : ¬ 32768 < (Wp.B (Wp.listB Wp.textBs a)).size := fun h => by unfold Sp.frameR at y3; rw [if_pos h] at y3; simp at y3
    have r3 : Sp.frameR (Wp.B (Wp.listB Wp.textBs a)) = (Sp.frameB (Wp.listB Wp.textBs a), 0) := if_neg hl3
    have r4 : Sp.frameR (Wp.B (Wp.listB Wp.numB b)) = (Sp.frameB (Wp.listB Wp.numB b), 0) := if_neg (by omega)
    rw [r3, r4] at HH
    simp only [] at HH
    have f1 := Sp.frame_size (Wp.B (Wp.listB Wp.textBs a))
    have f2 := Sp.frame_size (Wp.B (Wp.listB Wp.numB b))
    rw [Wp.B_data] at f1 f2
    refine framed_yes pa ca a pb cb b more _ _ _ _ HH hm (by omega) (by omega) g1 (by omega) (fun w hL => ?_) (fun w hL => ?_) (fun w => ?_) (fun w => ?_) w hL aa ab
    · have h := next_any (Wp.B (Sp.frameB (Wp.listB Wp.textBs a)) ++ Wp.B (Sp.frameB (Wp.listB Wp.numB b)) ++ more) w hL (by rw [ByteArray.size_append, ByteArray.size_append]; omega)
      have e := Sp.nx_put (Wp.B (Wp.listB Wp.textBs a)) (Wp.B (Sp.frameB (Wp.listB Wp.numB b)) ++ more) (by omega)
      rw [Wp.B_data, ← ByteArray.append_assoc] at e
      rw [e] at h
      simp only [Wp.B_of] at h
      exact h
    · have h := next_any (Wp.B (Sp.frameB (Wp.listB Wp.numB b)) ++ more) w hL (by rw [ByteArray.size_append]; omega)
      have e := Sp.nx_put (Wp.B (Wp.listB Wp.numB b)) more (by omega)
      rw [Wp.B_data] at e
      rw [e] at h
      simp only [Wp.B_of] at h
      exact h
    · have h := gettexts_any (Wp.B (Wp.listB Wp.textBs a)) w (by omega)
      have e := Wp.getList_put Wp.getT Wp.textBs a [] g1 (fun x h s => Wp.getT_put x s (g2 x h))
      rw [List.append_nil] at e
      rw [Wp.B_data, e] at h
      exact h
    · have h := getnums_any (Wp.B (Wp.listB Wp.numB b)) w (by omega)
      have e := Wp.getList_put Wp.getNum Wp.numB b [] (by omega) (fun x h s => Wp.getNum_numB x (hb x h) s)
      rw [List.append_nil] at e
      rw [Wp.B_data, e] at h
      exact h
end Go.Proofs.YtdhiekhinimohaaDoor
