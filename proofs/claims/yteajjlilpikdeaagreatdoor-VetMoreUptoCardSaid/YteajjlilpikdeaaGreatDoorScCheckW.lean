
/-
  What scan's Check asks of tokens, place by place. No condition but those that the theorems state.
-/
import Derived.Test.YteajjlilpikdeaaGreatDoorScRightW
namespace Go.Proofs.YteajjlilpikdeaaGreatDoor
open Go.RowKit Go.Shelf

theorem Sc.chain_iff : ∀ l : List Sc.T, Sc.chain l = true ↔ ∀ i (h : i + 1 < l.length), Sc.behind (l[i]'(by omega)) l[i + 1] = true
  | [] => by simp [Sc.chain]
  | [a] => by simp [Sc.chain]
  | a :: b :: r => by
    rw [Sc.chain, Bool.and_eq_true, Sc.chain_iff (b :: r)]
    constructor
    · rintro ⟨h1, h2⟩ i hi
      cases i with
      | zero => exact h1
      | succ i => exact h2 i (by simp at hi ⊢; omega)
    · intro h
      exact ⟨h 0 (by simp), fun i hi => h (i + 1) (by simp at hi ⊢; omega)⟩
theorem Sc.okTs_iff (l : List Sc.T) : Sc.okTs l = true ↔ ∀ i (h : i < l.length), Sc.okT l[i] = true ∧ ∀ (h0 : 0 < i), Sc.behind (l[i - 1]'(by omega)) l[i] = true := by
  unfold Sc.okTs
  rw [Bool.and_eq_true, Sc.chain_iff, List.all_eq_true]
  constructor
  · rintro ⟨h1, h2⟩ i hi
    refine ⟨h1 _ (List.getElem_mem _), fun h0 => ?_⟩
    obtain ⟨j, rfl⟩ : ∃ j, i = j + 1 := ⟨i - 1, by omega⟩
    exact h2 j hi
  · intro h
    refine ⟨fun x hx => ?_, fun i hi => ?_⟩
    · obtain ⟨i, hi, rfl⟩ := List.getElem_of_mem hx
      exact (h i hi).1
    · exact (h (i + 1) hi).2 (by omega)
theorem Sc.chk_ok {l : List Sc.T} (h : ∀ i (h : i < l.length), Sc.okT l[i] = true ∧ ∀ (h0 : 0 < i), Sc.behind (l[i - 1]'(by omega)) l[i] = true) : Sc.chkTs l = 0 := by
  unfold Sc.chkTs
  rw [if_pos ((Sc.okTs_iff l).2 h)]
theorem Sc.chk_bad {l : List Sc.T} {i : Nat} (hi : i < l.length) (h : Sc.okT l[i] = false ∨ ∃ (h0 : 0 < i), Sc.behind (l[i - 1]'(by omega)) l[i] = false) : Sc.chkTs l = 2 := by
  unfold Sc.chkTs
  rw [if_neg fun hh => ?_]
  obtain ⟨h1, h2⟩ := (Sc.okTs_iff l).1 hh i hi
  rcases h with h | ⟨h0, h⟩
  · rw [h1] at h; cases h
  · rw [h2 h0] at h; cases h
theorem Sc.lt_of_cell {w : World} {b o : Nat} {v : Value} (h : w.cell? ⟨b, o, none⟩ = some v) : b < w.heap.size := by
  refine Classical.byContradiction fun hc => ?_
  rw [World.cell?, Array.getElem?_eq_none (by show w.heap.size ≤ b; omega)] at h
  cases h
end Go.Proofs.YteajjlilpikdeaaGreatDoor
